/- The walk of the iterator impl.lexWords hands back: it yields the words of a clean text, one after the other. Conditions: the text is clean and lies in its box; a round that goes on keeps the box and every iterator. -/
import Derived.RangeFuncNested
import Derived.RangeFuncBound
import Derived.RangeFuncCalls
import Derived.RangeFuncLeaves
import Derived.Shelf.Abstract
import Derived.Shelf.RegionOpen
import Derived.OwnWalkIn
import Derived.TacticsInMore
import Derived.LoopNIn
import Derived.LoopIn
import Derived.Lib.OthersKept
import Derived.Test.YtkegbdlbaanapaaXa
namespace Go.Proofs.Ytkegbdlbaanapaa
open Go.RowKit Go.PlainAid Go.Shelf
attribute [local go_sem] Oper.semAt_some

theorem grown_iterAt (w : World) (k : Nat) (s : ByteArray) (pos : Nat) : w.grownBy (w.iterAt k s pos) (some k) :=
  ⟨rfl, rfl, rfl, by rw [Lib.iterAt_size]; exact Nat.le_refl _, fun j _ hj => Lib.iterAt_other w k j s pos (fun e => hj (by rw [e]))⟩
theorem byte_mem2 (s : ByteArray) (k : Nat) (h : k < s.size) : s[k] ∈ s.data.toList := by exact Array.getElem_mem_toList (xs := s.data) h
theorem fine_ascii {c : UInt8} (h : fine c = true) : c.toNat < 128 := by
  unfold fine at h
  rw [Bool.or_eq_true, blank_iff] at h
  simp at h
  omega
theorem blank_not_bracket {z : Int} (h : (z == 32 || z == 10) = true) : (z == 40 || z == 41) = false := by
  simp at h
  rcases h with rfl | rfl <;> rfl
/-- What a round that goes on keeps: every iterator, and the block T. -/
def KeepT (T : Nat) (W W' : World) : Prop := KeepsWalks W W' ∧ W'.heap[T]? = W.heap[T]?

set_option maxRecDepth 100000 in
set_option maxHeartbeats 1000000 in
theorem lexWords1_in (n l T : Nat) (hn : 1 ≤ n) (s : ByteArray) (hs : s.size ≤ 4000) (hcl : cleanB s = true) (J Jx : List ByteArray → World → Prop) (W : World) (hT : T < W.heap.size) (hbox : W.heap[T]? = some (.cells #[.string s] 9 (0, 0)))
    (hJ : AbidesFrom W.heap.size J)
    (hY : ∀ pre (x : ByteArray) W1, x.size ≤ 4000 → J pre W1 → pre.length < (wordsOf s).length → YieldAt Fence.wide (n - 1) Try.prog l #[.string x] W1 fun e W' =>
      (e = .returned (.bool true) ∧ J (pre ++ [x]) W' ∧ KeepT T W1 W') ∨ (e = .returned (.bool false) ∧ Jx (pre ++ [x]) W'))
    (h0 : J [] W) :
    CallsIn Fence.wide n Try.prog 55 #[.func (.yield l) #[] #[], .pointer (some ⟨T, 0, none⟩)] W fun e W' => (∃ v, e = .returned v) ∧
      ((∃ ys, ys = wordsOf s ∧ J ys W') ∨ (∃ pre, pre <+: wordsOf s ∧ Jx pre W')) := by
  refine callsIn_of_wp Try.func55 rfl trivial ?_ rfl
  simp only [Try.ntmps55, List.size_toArray, List.length_cons, List.length_nil, Nat.reduceAdd, Nat.reduceSub, Array.replicate_succ, Array.replicate_zero, List.push_toArray, List.append_toArray, List.nil_append, List.cons_append]
  have hc : W.cell? ⟨T, 0, none⟩ = some (.string s) := by rw [Lib.cell_of_heap hbox]; rfl
  have hf54 : Fence.wide.fn 54 := trivial
  have hf56 : Fence.wide.fn 56 := trivial
  have HJ := hide hJ
  have HY := hide hY
  have H0 := hide h0
  have HBX := hide hbox
  clear hJ hY h0 hbox
  gi_wp2
  gi_loopw [3] (fun st wr => ∃ (pos start : Nat) (pre : List ByteArray), st = .int .i64 start ∧ start ≤ pos ∧ pos ≤ s.size ∧ Hid (wr.heap[W.heap.size]? = some (.stringIter s pos)) ∧ Hid (wr.heap[T]? = some (.cells #[.string s] 9 (0, 0))) ∧ Hid (wordsOf s = pre ++ restOf s start pos) ∧ Hid (J pre wr)) (fun _ wr => s.size - wr.iterPos W.heap.size)
  case atStart =>
    refine ⟨0, 0, [], rfl, Nat.le_refl _, Nat.zero_le _, hide (World.iter_heap W s 0), hide ((Below.heap_alloc W _ T hT).trans (unhide HBX)), hide (by rw [rest_start]; rfl), hide ?_⟩
    exact unhide HJ [] W _ none (unhide H0) (World.grownBy_alloc W _ none) (fun r e => by cases e)
  case round =>
    obtain ⟨pos, start, pre, rfl, hsp, hps, HIT, HBW, HE, HJw⟩ := hrel
    by_cases hp : pos < s.size
    · have hfine : fine (s[pos]'hp) = true := (List.all_eq_true.1 hcl) _ (byte_mem2 s pos hp)
      have ha : (s[pos]'hp).toNat < 128 := fine_ascii hfine
      have hnx : ∀ ty, (Instr.next (.pointer (some ⟨W.heap.size, 0, none⟩)) true ty).run Try.prog wr = _ := fun ty => Lib.run_next_ascii_at wr W.heap.size s pos ty (unhide HIT) hp ha
      have HI0 := hide (Lib.iterAt_heap wr W.heap.size s pos (pos + 1) (unhide HIT))
      have HB0 := hide ((Lib.iterAt_other wr W.heap.size T s (pos + 1) (by omega)).trans (unhide HBW))
      have HJ0 := hide (unhide HJ pre wr _ (some W.heap.size) (unhide HJw) (grown_iterAt wr W.heap.size s (pos + 1)) (fun r e => by cases e; exact ⟨Nat.le_refl _, _, unhide HIT, rfl⟩))
      obtain ⟨wi, hwi⟩ : ∃ wi, wr.iterAt W.heap.size s (pos + 1) = wi := ⟨_, rfl⟩
      rw [hwi] at hnx HI0 HB0 HJ0
      have hc0 : wi.cell? ⟨T, 0, none⟩ = some (.string s) := by rw [Lib.cell_of_heap (unhide HB0)]; rfl
      clear hwi hfine
      have HBI := hide (blank_iff (s[pos]'hp))
      have HRI := hide (bracket_iff (s[pos]'hp))
      cases hbl : ((((s[pos]'hp).toNat : Int) == 32) || (((s[pos]'hp).toNat : Int) == 10)) with
      | true =>
        have hbr : ((((s[pos]'hp).toNat : Int) == 40) || (((s[pos]'hp).toNat : Int) == 41)) = false := blank_not_bracket hbl
        have HB : Hid (blank (s[pos]'hp) = true) := hide (by rw [unhide HBI]; exact hbl)
        by_cases hst : start < pos
        · have HE1 := hide ((unhide HE).trans (congrArg (pre ++ ·) (rest_blank1 s start pos hst hp (unhide HB))))
          have hlen1 : (pre).length < (wordsOf s).length := by rw [unhide HE1, List.length_append]; simp
          obtain ⟨fn1, tmps1, assign1, body1, hy1, hR1⟩ := unhide HY (pre) (s.extract start pos) wi (by rw [ByteArray.size_extract]; omega) (unhide HJ0) hlen1
          have HR1 := hide hR1
          clear hR1 hlen1
          gi_wp2_with (first | (gi_at_call 54; refine (callsIn_wide.2 (lexBlank_any _ _)).mono ?_; rintro e w' ⟨rfl, rfl⟩; rw [hbl]) | (gi_at_call 56; refine (callsIn_wide.2 (lexBracket_any _ _)).mono ?_; rintro e w' ⟨rfl, rfl⟩; rw [hbr]))
          refine (unhide HR1).mono ?_
          rintro e w1 (⟨rfl, hj1, hk1⟩ | ⟨rfl, hx1⟩)
          · have HJ1 := hide hj1
            have HI1 := hide (hk1.1.same _ _ (unhide HI0) rfl)
            have HB1 := hide (hk1.2.trans (unhide HB0))
            have hc1 : w1.cell? ⟨T, 0, none⟩ = some (.string s) := by rw [Lib.cell_of_heap (unhide HB1)]; rfl
            clear hj1 hk1 hy1
            have HE2 : Hid (wordsOf s = (pre ++ [s.extract start pos]) ++ restOf s (pos + 1) (pos + 1)) := hide (by rw [unhide HE1]; simp)
            gi_wp2_with (first | (gi_at_call 54; refine (callsIn_wide.2 (lexBlank_any _ _)).mono ?_; rintro e w' ⟨rfl, rfl⟩; rw [hbl]) | (gi_at_call 56; refine (callsIn_wide.2 (lexBracket_any _ _)).mono ?_; rintro e w' ⟨rfl, rfl⟩; rw [hbr]))
            refine ⟨fun _ h => (by cases h), ?_⟩
            gi_wp2_with (first | (gi_at_call 54; refine (callsIn_wide.2 (lexBlank_any _ _)).mono ?_; rintro e w' ⟨rfl, rfl⟩; rw [hbl]) | (gi_at_call 56; refine (callsIn_wide.2 (lexBracket_any _ _)).mono ?_; rintro e w' ⟨rfl, rfl⟩; rw [hbr]))
            go_roundw
            case rel => exact ⟨pos + 1, pos + 1, pre ++ [s.extract start pos], by go_num, by omega, by omega, HI1, HB1, HE2, HJ1⟩
            case measure => rw [iterPos_of (unhide HI1), iterPos_of (unhide HIT)]; omega
          · have HX1 := hide hx1
            clear hx1
            gi_wp2_with (first | (gi_at_call 54; refine (callsIn_wide.2 (lexBlank_any _ _)).mono ?_; rintro e w' ⟨rfl, rfl⟩; rw [hbl]) | (gi_at_call 56; refine (callsIn_wide.2 (lexBracket_any _ _)).mono ?_; rintro e w' ⟨rfl, rfl⟩; rw [hbr]))
            refine bodyPost_ret (results_none rfl _ _ _) rfl ?_
            exact ⟨⟨_, rfl⟩, .inr ⟨_, ⟨restOf s (pos + 1) (pos + 1), by rw [unhide HE1]; simp⟩, unhide HX1⟩⟩
        · obtain rfl : start = pos := by omega
          have HE1 := hide ((unhide HE).trans (congrArg (pre ++ ·) (rest_blank0 s start hp (unhide HB))))
          gi_wp2_with (first | (gi_at_call 54; refine (callsIn_wide.2 (lexBlank_any _ _)).mono ?_; rintro e w' ⟨rfl, rfl⟩; rw [hbl]) | (gi_at_call 56; refine (callsIn_wide.2 (lexBracket_any _ _)).mono ?_; rintro e w' ⟨rfl, rfl⟩; rw [hbr]))
          refine ⟨fun _ h => (by cases h), ?_⟩
          gi_wp2_with (first | (gi_at_call 54; refine (callsIn_wide.2 (lexBlank_any _ _)).mono ?_; rintro e w' ⟨rfl, rfl⟩; rw [hbl]) | (gi_at_call 56; refine (callsIn_wide.2 (lexBracket_any _ _)).mono ?_; rintro e w' ⟨rfl, rfl⟩; rw [hbr]))
          go_roundw
          case rel => exact ⟨start + 1, start + 1, pre, by go_num, by omega, by omega, HI0, HB0, HE1, HJ0⟩
          case measure => rw [iterPos_of (unhide HI0), iterPos_of (unhide HIT)]; omega
      | false =>
        have HB : Hid (blank (s[pos]'hp) = false) := hide (by rw [unhide HBI]; exact hbl)
        cases hbr : ((((s[pos]'hp).toNat : Int) == 40) || (((s[pos]'hp).toNat : Int) == 41)) with
        | false =>
          have HE1 := hide ((unhide HE).trans (congrArg (pre ++ ·) (rest_go s start pos hsp hp (unhide HB) (by rw [unhide HRI]; exact hbr))))
          gi_wp2_with (first | (gi_at_call 54; refine (callsIn_wide.2 (lexBlank_any _ _)).mono ?_; rintro e w' ⟨rfl, rfl⟩; rw [hbl]) | (gi_at_call 56; refine (callsIn_wide.2 (lexBracket_any _ _)).mono ?_; rintro e w' ⟨rfl, rfl⟩; rw [hbr]))
          go_roundw
          case rel => exact ⟨pos + 1, start, pre, rfl, by omega, by omega, HI0, HB0, HE1, HJ0⟩
          case measure => rw [iterPos_of (unhide HI0), iterPos_of (unhide HIT)]; omega
        | true =>
          have HBR : Hid (bracket (s[pos]'hp) = true) := hide (by rw [unhide HRI]; exact hbr)
          by_cases hst : start < pos
          · have HE1 := hide ((unhide HE).trans (congrArg (pre ++ ·) (rest_br1 s start pos hst hp (unhide HB) (unhide HBR))))
            have hlen1 : (pre).length < (wordsOf s).length := by rw [unhide HE1, List.length_append]; simp
            obtain ⟨fn1, tmps1, assign1, body1, hy1, hR1⟩ := unhide HY (pre) (s.extract start pos) wi (by rw [ByteArray.size_extract]; omega) (unhide HJ0) hlen1
            have HR1 := hide hR1
            clear hR1 hlen1
            gi_wp2_with (first | (gi_at_call 54; refine (callsIn_wide.2 (lexBlank_any _ _)).mono ?_; rintro e w' ⟨rfl, rfl⟩; rw [hbl]) | (gi_at_call 56; refine (callsIn_wide.2 (lexBracket_any _ _)).mono ?_; rintro e w' ⟨rfl, rfl⟩; rw [hbr]))
            refine (unhide HR1).mono ?_
            rintro e w1 (⟨rfl, hj1, hk1⟩ | ⟨rfl, hx1⟩)
            · have HJ1 := hide hj1
              have HI1 := hide (hk1.1.same _ _ (unhide HI0) rfl)
              have HB1 := hide (hk1.2.trans (unhide HB0))
              have hc1 : w1.cell? ⟨T, 0, none⟩ = some (.string s) := by rw [Lib.cell_of_heap (unhide HB1)]; rfl
              clear hj1 hk1 hy1
              have HE2 : Hid (wordsOf s = (pre ++ [s.extract start pos]) ++ s.extract pos (pos + 1) :: restOf s (pos + 1) (pos + 1)) := hide (by rw [unhide HE1]; simp)
              have hlen2 : (pre ++ [s.extract start pos]).length < (wordsOf s).length := by rw [unhide HE2, List.length_append]; simp
              obtain ⟨fn2, tmps2, assign2, body2, hy2, hR2⟩ := unhide HY (pre ++ [s.extract start pos]) (s.extract pos (pos + 1)) w1 (by rw [ByteArray.size_extract]; omega) (unhide HJ1) hlen2
              have HR2 := hide hR2
              clear hR2 hlen2
              gi_wp2_with (first | (gi_at_call 54; refine (callsIn_wide.2 (lexBlank_any _ _)).mono ?_; rintro e w' ⟨rfl, rfl⟩; rw [hbl]) | (gi_at_call 56; refine (callsIn_wide.2 (lexBracket_any _ _)).mono ?_; rintro e w' ⟨rfl, rfl⟩; rw [hbr]))
              refine (unhide HR2).mono ?_
              rintro e w2 (⟨rfl, hj2, hk2⟩ | ⟨rfl, hx2⟩)
              · have HJ2 := hide hj2
                have HI2 := hide (hk2.1.same _ _ (unhide HI1) rfl)
                have HB2 := hide (hk2.2.trans (unhide HB1))
                have hc2 : w2.cell? ⟨T, 0, none⟩ = some (.string s) := by rw [Lib.cell_of_heap (unhide HB2)]; rfl
                clear hj2 hk2 hy2
                have HE3 : Hid (wordsOf s = ((pre ++ [s.extract start pos]) ++ [s.extract pos (pos + 1)]) ++ restOf s (pos + 1) (pos + 1)) := hide (by rw [unhide HE2]; simp)
                gi_wp2_with (first | (gi_at_call 54; refine (callsIn_wide.2 (lexBlank_any _ _)).mono ?_; rintro e w' ⟨rfl, rfl⟩; rw [hbl]) | (gi_at_call 56; refine (callsIn_wide.2 (lexBracket_any _ _)).mono ?_; rintro e w' ⟨rfl, rfl⟩; rw [hbr]))
                go_roundw
                case rel => exact ⟨pos + 1, pos + 1, (pre ++ [s.extract start pos]) ++ [s.extract pos (pos + 1)], by go_num, by omega, by omega, HI2, HB2, HE3, HJ2⟩
                case measure => rw [iterPos_of (unhide HI2), iterPos_of (unhide HIT)]; omega
              · have HX2 := hide hx2
                clear hx2
                gi_wp2_with (first | (gi_at_call 54; refine (callsIn_wide.2 (lexBlank_any _ _)).mono ?_; rintro e w' ⟨rfl, rfl⟩; rw [hbl]) | (gi_at_call 56; refine (callsIn_wide.2 (lexBracket_any _ _)).mono ?_; rintro e w' ⟨rfl, rfl⟩; rw [hbr]))
                refine bodyPost_ret (results_none rfl _ _ _) rfl ?_
                exact ⟨⟨_, rfl⟩, .inr ⟨_, ⟨restOf s (pos + 1) (pos + 1), by rw [unhide HE2]; simp⟩, unhide HX2⟩⟩
            · have HX1 := hide hx1
              clear hx1
              gi_wp2_with (first | (gi_at_call 54; refine (callsIn_wide.2 (lexBlank_any _ _)).mono ?_; rintro e w' ⟨rfl, rfl⟩; rw [hbl]) | (gi_at_call 56; refine (callsIn_wide.2 (lexBracket_any _ _)).mono ?_; rintro e w' ⟨rfl, rfl⟩; rw [hbr]))
              refine bodyPost_ret (results_none rfl _ _ _) rfl ?_
              exact ⟨⟨_, rfl⟩, .inr ⟨_, ⟨s.extract pos (pos + 1) :: restOf s (pos + 1) (pos + 1), by rw [unhide HE1]; simp⟩, unhide HX1⟩⟩
          · obtain rfl : start = pos := by omega
            have HE1 := hide ((unhide HE).trans (congrArg (pre ++ ·) (rest_br0 s start hp (unhide HB) (unhide HBR))))
            have hlen1 : (pre).length < (wordsOf s).length := by rw [unhide HE1, List.length_append]; simp
            obtain ⟨fn1, tmps1, assign1, body1, hy1, hR1⟩ := unhide HY (pre) (s.extract start (start + 1)) wi (by rw [ByteArray.size_extract]; omega) (unhide HJ0) hlen1
            have HR1 := hide hR1
            clear hR1 hlen1
            gi_wp2_with (first | (gi_at_call 54; refine (callsIn_wide.2 (lexBlank_any _ _)).mono ?_; rintro e w' ⟨rfl, rfl⟩; rw [hbl]) | (gi_at_call 56; refine (callsIn_wide.2 (lexBracket_any _ _)).mono ?_; rintro e w' ⟨rfl, rfl⟩; rw [hbr]))
            refine ⟨fun _ h => (by cases h), ?_⟩
            gi_wp2_with (first | (gi_at_call 54; refine (callsIn_wide.2 (lexBlank_any _ _)).mono ?_; rintro e w' ⟨rfl, rfl⟩; rw [hbl]) | (gi_at_call 56; refine (callsIn_wide.2 (lexBracket_any _ _)).mono ?_; rintro e w' ⟨rfl, rfl⟩; rw [hbr]))
            refine (unhide HR1).mono ?_
            rintro e w1 (⟨rfl, hj1, hk1⟩ | ⟨rfl, hx1⟩)
            · have HJ1 := hide hj1
              have HI1 := hide (hk1.1.same _ _ (unhide HI0) rfl)
              have HB1 := hide (hk1.2.trans (unhide HB0))
              have hc1 : w1.cell? ⟨T, 0, none⟩ = some (.string s) := by rw [Lib.cell_of_heap (unhide HB1)]; rfl
              clear hj1 hk1 hy1
              have HE2 : Hid (wordsOf s = (pre ++ [s.extract start (start + 1)]) ++ restOf s (start + 1) (start + 1)) := hide (by rw [unhide HE1]; simp)
              gi_wp2_with (first | (gi_at_call 54; refine (callsIn_wide.2 (lexBlank_any _ _)).mono ?_; rintro e w' ⟨rfl, rfl⟩; rw [hbl]) | (gi_at_call 56; refine (callsIn_wide.2 (lexBracket_any _ _)).mono ?_; rintro e w' ⟨rfl, rfl⟩; rw [hbr]))
              go_roundw
              case rel => exact ⟨start + 1, start + 1, pre ++ [s.extract start (start + 1)], by go_num, by omega, by omega, HI1, HB1, HE2, HJ1⟩
              case measure => rw [iterPos_of (unhide HI1), iterPos_of (unhide HIT)]; omega
            · have HX1 := hide hx1
              clear hx1
              gi_wp2_with (first | (gi_at_call 54; refine (callsIn_wide.2 (lexBlank_any _ _)).mono ?_; rintro e w' ⟨rfl, rfl⟩; rw [hbl]) | (gi_at_call 56; refine (callsIn_wide.2 (lexBracket_any _ _)).mono ?_; rintro e w' ⟨rfl, rfl⟩; rw [hbr]))
              refine bodyPost_ret (results_none rfl _ _ _) rfl ?_
              exact ⟨⟨_, rfl⟩, .inr ⟨_, ⟨restOf s (start + 1) (start + 1), by rw [unhide HE1]; simp⟩, unhide HX1⟩⟩
    · obtain rfl : pos = s.size := by omega
      have hnx : ∀ ty, (Instr.next (.pointer (some ⟨W.heap.size, 0, none⟩)) true ty).run Try.prog wr = _ := fun ty => Lib.run_next_end_at wr W.heap.size s s.size ty (unhide HIT) hp
      have hc0 : wr.cell? ⟨T, 0, none⟩ = some (.string s) := by rw [Lib.cell_of_heap (unhide HBW)]; rfl
      by_cases hst : start < s.size
      · have HE1 := hide ((unhide HE).trans (congrArg (pre ++ ·) (rest_end1 s start s.size hst rfl)))
        have hlen : pre.length < (wordsOf s).length := by rw [unhide HE1, List.length_append]; simp
        obtain ⟨fn1, tmps1, assign1, body1, hy1, hR1⟩ := unhide HY pre (s.extract start s.size) wr (by rw [ByteArray.size_extract]; omega) (unhide HJw) hlen
        have HR1 := hide hR1
        clear hR1 hlen
        gi_wp2_with (first | (gi_at_call 54; refine (callsIn_wide.2 (lexBlank_any _ _)).mono ?_; rintro e w' ⟨rfl, rfl⟩; rw [hbl]) | (gi_at_call 56; refine (callsIn_wide.2 (lexBracket_any _ _)).mono ?_; rintro e w' ⟨rfl, rfl⟩; rw [hbr]))
        refine (unhide HR1).mono ?_
        rintro e w1 (⟨rfl, hj1, hk1⟩ | ⟨rfl, hx1⟩)
        · have HJ1 := hide hj1
          clear hj1 hk1
          gi_wp2_with (first | (gi_at_call 54; refine (callsIn_wide.2 (lexBlank_any _ _)).mono ?_; rintro e w' ⟨rfl, rfl⟩; rw [hbl]) | (gi_at_call 56; refine (callsIn_wide.2 (lexBracket_any _ _)).mono ?_; rintro e w' ⟨rfl, rfl⟩; rw [hbr]))
          go_end0
          exact ⟨⟨_, rfl⟩, .inl ⟨_, (unhide HE1).symm, unhide HJ1⟩⟩
        · have HX1 := hide hx1
          clear hx1
          gi_wp2_with (first | (gi_at_call 54; refine (callsIn_wide.2 (lexBlank_any _ _)).mono ?_; rintro e w' ⟨rfl, rfl⟩; rw [hbl]) | (gi_at_call 56; refine (callsIn_wide.2 (lexBracket_any _ _)).mono ?_; rintro e w' ⟨rfl, rfl⟩; rw [hbr]))
          go_end0
          exact ⟨⟨_, rfl⟩, .inr ⟨_, ⟨[], by rw [List.append_nil]; exact (unhide HE1).symm⟩, unhide HX1⟩⟩
      · obtain rfl : start = s.size := by omega
        have HE1 := hide ((unhide HE).trans (congrArg (pre ++ ·) (rest_end0 s s.size rfl)))
        gi_wp2_with (first | (gi_at_call 54; refine (callsIn_wide.2 (lexBlank_any _ _)).mono ?_; rintro e w' ⟨rfl, rfl⟩; rw [hbl]) | (gi_at_call 56; refine (callsIn_wide.2 (lexBracket_any _ _)).mono ?_; rintro e w' ⟨rfl, rfl⟩; rw [hbr]))
        go_end0
        exact ⟨⟨_, rfl⟩, .inl ⟨pre, by rw [unhide HE1]; simp, unhide HJw⟩⟩
end Go.Proofs.Ytkegbdlbaanapaa
