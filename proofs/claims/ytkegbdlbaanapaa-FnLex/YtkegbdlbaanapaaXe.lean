/- The walk of spec.LexCut: the words of a text, or nothing. No conditions but that the text is a Go string. -/
import Derived.Test.YtkegbdlbaanapaaXd
import Derived.Test.YtkegbdlbaanapaaWh
namespace Go.Proofs.Ytkegbdlbaanapaa
open Go.RowKit Go.PlainAid

theorem l1Blank_any (c : UInt8) (w : World) : Calls Try.prog 43 #[.int .u8 c.toNat] w fun e w' => e = .returned (.bool (blank c)) ∧ w = w' := by
  rw [blank_iff]
  cases h1 : ((c.toNat : Int) == 32) with
  | true =>
    go_enter Try.func43, Try.ntmps43
    go_wp2
    go_ret
    exact ⟨rfl, rfl⟩
  | false =>
    go_enter Try.func43, Try.ntmps43
    go_wp2
    go_ret
    exact ⟨rfl, rfl⟩
theorem l1Fine_any (c : UInt8) (w : World) : Calls Try.prog 42 #[.int .u8 c.toNat] w fun e w' => e = .returned (.bool (fine c)) ∧ w = w' := by
  cases hb : blank c with
  | true =>
    have HF : Hid (fine c = true) := hide (by unfold fine; rw [hb]; rfl)
    go_enter Try.func42, Try.ntmps42
    go_wp2_with (go_at_call 43; refine (l1Blank_any _ _).mono ?_; rintro e w' ⟨rfl, rfl⟩; rw [hb])
    go_ret
    exact ⟨ret_bool (unhide HF).symm, rfl⟩
  | false =>
    by_cases h1 : c.toNat ≤ 32
    · have HF : Hid (fine c = false) := hide (by unfold fine; rw [hb, decide_eq_false (p := 33 ≤ c.toNat) (by omega)]; rfl)
      go_enter Try.func42, Try.ntmps42
      go_wp2_with (go_at_call 43; refine (l1Blank_any _ _).mono ?_; rintro e w' ⟨rfl, rfl⟩; rw [hb])
      go_ret
      exact ⟨ret_bool (unhide HF).symm, rfl⟩
    by_cases h2 : c.toNat < 127
    · have HF : Hid (fine c = true) := hide (by unfold fine; rw [decide_eq_true (p := 33 ≤ c.toNat) (by omega), decide_eq_true (p := c.toNat ≤ 126) (by omega)]; simp)
      go_enter Try.func42, Try.ntmps42
      go_wp2_with (go_at_call 43; refine (l1Blank_any _ _).mono ?_; rintro e w' ⟨rfl, rfl⟩; rw [hb])
      go_ret
      exact ⟨ret_bool (by rw [unhide HF]; simp; omega), rfl⟩
    · have HF : Hid (fine c = false) := hide (by unfold fine; rw [hb, decide_eq_false (p := c.toNat ≤ 126) (by omega)]; simp)
      go_enter Try.func42, Try.ntmps42
      go_wp2_with (go_at_call 43; refine (l1Blank_any _ _).mono ?_; rintro e w' ⟨rfl, rfl⟩; rw [hb])
      go_ret
      exact ⟨ret_bool (by rw [unhide HF]; simp; omega), rfl⟩

/-- A slice of texts that are those of a cut, and whether it was one. -/
def CutsS (s : ByteArray) (w : World) (e : Ending) (w' : World) : Prop :=
  ∃ (a : Option Addr) (cap : Nat), e = .returned (.tuple #[.slice a (cutL s).length cap, .bool (cutB s)]) ∧ Words w' w'.heap.size a (cutL s) ∧ Below w.heap.size w w'
theorem cutsS_no {s : ByteArray} {w w' : World} (h : cutB s = false) (hb : Below w.heap.size w w') : CutsS s w (.returned (.tuple #[.slice none 0 0, .bool false])) w' := by
  refine ⟨none, 0, by rw [h, cut_no_of h]; rfl, ?_, hb⟩
  rw [cut_no_of h]
  exact .inl rfl
theorem row_words {W : World} {m k : Nat} {v : Value} {ws : List ByteArray} (h : W.ownsRow m 9 1 v k (ws.map Value.string)) (hk : k = ws.length) : ∃ (a : Option Addr) (cap : Nat), v = .slice a ws.length cap ∧ Words W W.heap.size a ws := by
  subst hk
  rcases h.2 with ⟨hv, h0⟩ | ⟨g, cap, cur, hv, hg, hgb, _⟩
  · refine ⟨none, 0, by rw [hv, h0], .inl (List.length_eq_zero_iff.1 h0)⟩
  · refine ⟨some ⟨g, 0, none⟩, cap, hv, .inr ⟨g, 0, rfl, (Array.getElem?_eq_some_iff.1 hgb).1, fun j hj => ?_⟩⟩
    subst hv
    rw [Nat.zero_add, h.cellAt j (by omega)]
    simp [hj]
/-- How far the cut of a text has come. -/
def Far (s : ByteArray) (k start : Nat) (pre : List ByteArray) : Prop :=
  (k ≤ s.size ∧ start ≤ k ∧ wordsOf s = pre ++ restOf s start k ∧ (s.data.toList.take k).all fine = true) ∨ (k = s.size + 1 ∧ wordsOf s = pre ∧ cleanB s = true)
theorem far_len {s : ByteArray} {k start : Nat} {pre : List ByteArray} (h : Far s k start pre) : pre.length ≤ 2 * s.size := by
  have := wordsOf_len s
  rcases h with ⟨_, _, h, _⟩ | ⟨_, h, _⟩
  · rw [h, List.length_append] at this; omega
  · rw [h] at this; omega

set_option maxHeartbeats 400000 in
theorem LexCutS_long (s : ByteArray) (w : World) (hs : s.size ≤ maxLen) (h : 4000 < s.size) : Calls Try.prog 17 #[.string s] w (CutsS s w) := by
  unfold maxLen at hs
  have HC := hide (cut_long h)
  go_enter Try.func17, Try.ntmps17
  go_wp2
  go_ret2
  exact cutsS_no (unhide HC) (Below.refl _ _)

theorem ret_cut {v v' : Value} {b c : Bool} (h : v = v') (k : b = c) : Ending.returned (.tuple #[v, .bool b]) = .returned (.tuple #[v', .bool c]) := by rw [h, k]
theorem mid_bounds (s : ByteArray) (a b : Nat) (h1 : a ≤ b) (h2 : b ≤ s.size) : (0 : Int) ≤ (a : Int) ∧ (a : Int) ≤ (b : Int) ∧ (b : Int) ≤ (s.size : Int) := by omega

theorem next_row {W w2 : World} {m k : Nat} {v v2 : Value} {pre : List ByteArray} {x : ByteArray} {w : World} (hrow : W.ownsRow w.heap.size 9 1 v k (pre.map Value.string)) (hB : Below w.heap.size w W)
    (hown : w2.ownsRow w.heap.size 9 1 v2 m (pre.map Value.string ++ [.string x])) (hgrow : (W.alloc (.cells #[.string x] 9)).grownBy w2 v.ownBlock) : w2.ownsRow w.heap.size 9 1 v2 m ((pre ++ [x]).map Value.string) ∧ Below w.heap.size w w2 := by
  refine ⟨by rw [List.map_append]; exact hown, (hB.alloc hB.size _).grown hgrow (by have := hB.size; simp; omega) (fun k e => (hrow.lt k e).1)⟩

set_option maxRecDepth 100000 in
set_option maxHeartbeats 4000000 in
theorem LexCutS_short (s : ByteArray) (w : World) (h : ¬ 4000 < s.size) : Calls Try.prog 17 #[.string s] w (CutsS s w) := by
  obtain ⟨i0, hi, hz0, hz1, hz2⟩ := info_parts sinfo9
  go_enter Try.func17, Try.ntmps17
  go_wp2
  go_loopw [4, 5, 6] (fun o f i wr => ∃ (k start : Nat) (pre : List ByteArray), i = .int .i64 k ∧ f = .int .i64 start ∧ k ≤ s.size + 1 ∧ start ≤ 4002 ∧ Hid (Far s k start pre) ∧ wr.ownsRow w.heap.size 9 1 o pre.length (pre.map Value.string) ∧ Hid (Below w.heap.size w wr)) (fun _ _ i _ => s.size + 1 - (intOf i).toNat)
  case atStart =>
    refine ⟨0, 0, [], rfl, rfl, by omega, by omega, hide (.inl ⟨Nat.zero_le _, Nat.le_refl _, by rw [rest_start]; rfl, rfl⟩), ?_, hide ((Below.refl _ _).alloc (Nat.le_refl _) _)⟩
    exact World.ownsRow_lit w #[] 0 (Nat.le_refl _) (Nat.zero_le _) rfl
  case round =>
    obtain ⟨k, start, pre, rfl, rfl, hk, hst0, HF, hrow, HB⟩ := hrel
    have hpl : pre.length ≤ 8000 := by have := far_len (unhide HF); omega
    obtain ⟨ao, cap, hv⟩ := row_slice_len hrow
    rw [hv] at hrow ⊢
    clear hv
    by_cases hp : k < s.size
    · have hfar : start ≤ k ∧ wordsOf s = pre ++ restOf s start k ∧ (s.data.toList.take k).all fine = true := by
        rcases unhide HF with ⟨_, a, b, c⟩ | ⟨a, _⟩
        · exact ⟨a, b, c⟩
        · omega
      obtain ⟨hsk, hE, hA⟩ := hfar
      have HE := hide hE
      have HA := hide hA
      clear hE hA HF
      cases hfi : fine (s[k]'hp) with
      | false =>
        have HC := hide (cut_unclean (s := s) (all_bad s fine k hp hfi))
        have hbl : blank (s[k]'hp) = blank (s[k]'hp) := rfl
        clear hbl
        go_wp2_with (go_at_call 42; refine (l1Fine_any _ _).mono ?_; rintro e w' ⟨rfl, rfl⟩; rw [hfi])
        go_ret2
        exact cutsS_no (unhide HC) (unhide HB)
      | true =>
        have HA1 : Hid ((s.data.toList.take (k + 1)).all fine = true) := hide (by rw [all_snoc s fine k hp, unhide HA, hfi]; rfl)
        have HRI := hide (bracket_iff (s[k]'hp))
        cases hbl : blank (s[k]'hp) with
        | true =>
          by_cases hst : start < k
          · have HE1 : Hid (Far s (k + 1) (k + 1) (pre ++ [s.extract start k])) := hide (.inl ⟨by omega, Nat.le_refl _, by rw [unhide HE, rest_blank1 s start k hst hp hbl]; simp, unhide HA1⟩)
            have hBN := unhide HB
            go_wp2_with (first | (at_builtin; refine wpList_append_own _ rfl _ _ 23 rfl w.heap.size 9 i0 (.string ⟨#[]⟩) 1 16 Try.underlying23 hi hz0 hz1 hz2 rfl (by decide) _ _ _ rfl (hrow.alloc _) ⟨wr.heap.size, 0, none⟩ 1 1 [.string (s.extract start k)] rfl rfl (cell_one_new _ _ _) (by simp [Value.oneCell']) (by unfold maxLen; omega) (by omega) (by have := hBN.size; simp; omega) ?_; intro v2 w2 hown2 hgrow2 _; obtain ⟨g2, cap2, rfl⟩ := ownsRow_succ hown2) | (go_at_call 42; refine (l1Fine_any _ _).mono ?_; rintro e w' ⟨rfl, rfl⟩; rw [hfi]) | (go_at_call 43; refine (l1Blank_any _ _).mono ?_; rintro e w' ⟨rfl, rfl⟩; rw [hbl]))
            obtain ⟨r1, r2⟩ := next_row hrow hBN hown2 hgrow2
            go_roundw
            case rel => exact ⟨k + 1, k + 1, pre ++ [s.extract start k], by go_num, by go_num, by omega, by omega, HE1, by rw [List.length_append]; exact r1, hide r2⟩
            case measure => simp [intOf] <;> omega
          · obtain rfl : start = k := by omega
            have HE1 : Hid (Far s (start + 1) (start + 1) pre) := hide (.inl ⟨by omega, Nat.le_refl _, by rw [unhide HE, rest_blank0 s start hp hbl], unhide HA1⟩)
            go_wp2_with (first | (go_at_call 42; refine (l1Fine_any _ _).mono ?_; rintro e w' ⟨rfl, rfl⟩; rw [hfi]) | (go_at_call 43; refine (l1Blank_any _ _).mono ?_; rintro e w' ⟨rfl, rfl⟩; rw [hbl]))
            go_roundw
            case rel => exact ⟨start + 1, start + 1, pre, by go_num, by go_num, by omega, by omega, HE1, hrow, HB⟩
            case measure => simp [intOf] <;> omega
        | false =>
          cases h40 : (((s[k]'hp).toNat : Int) == 40) with
          | false =>
            have n40 : (((s[k]'hp).toNat : Int) != 40) = true := by simp only [bne, h40]; rfl
            cases h41 : (((s[k]'hp).toNat : Int) == 41) with
            | false =>
              have n41 : (((s[k]'hp).toNat : Int) != 41) = true := by simp only [bne, h41]; rfl
              have HE1 : Hid (Far s (k + 1) start pre) := hide (.inl ⟨by omega, by omega, by rw [unhide HE, rest_go s start k hsk hp hbl (by rw [unhide HRI, h40, h41]; rfl)], unhide HA1⟩)
              go_wp2_with (first | (go_at_call 42; refine (l1Fine_any _ _).mono ?_; rintro e w' ⟨rfl, rfl⟩; rw [hfi]) | (go_at_call 43; refine (l1Blank_any _ _).mono ?_; rintro e w' ⟨rfl, rfl⟩; rw [hbl]))
              go_roundw
              case rel => exact ⟨k + 1, start, pre, by go_num, rfl, by omega, by omega, HE1, hrow, HB⟩
              case measure => simp [intOf] <;> omega
            | true =>
              have n41 : (((s[k]'hp).toNat : Int) != 41) = false := by simp only [bne, h41]; rfl
              have HBR : Hid (bracket (s[k]'hp) = true) := hide (by rw [unhide HRI, h41]; simp)
              clear h41
              by_cases hst : start < k
              · have HE1 : Hid (Far s (k + 1) (k + 1) ((pre ++ [s.extract start k]) ++ [s.extract k (k + 1)])) := hide (.inl ⟨by omega, Nat.le_refl _, by rw [unhide HE, rest_br1 s start k hst hp hbl (unhide HBR)]; simp, unhide HA1⟩)
                have hBN := unhide HB
                have tok1 : True := trivial
                go_wp2_with (first | (go_at_call 42; refine (l1Fine_any _ _).mono ?_; rintro e w' ⟨rfl, rfl⟩; rw [hfi]) | (go_at_call 43; refine (l1Blank_any _ _).mono ?_; rintro e w' ⟨rfl, rfl⟩; rw [hbl]) | (at_builtin; have _t := tok1; refine wpList_append_own _ rfl _ _ 23 rfl w.heap.size 9 i0 (.string ⟨#[]⟩) 1 16 Try.underlying23 hi hz0 hz1 hz2 rfl (by decide) _ _ _ rfl (hrow.alloc _) ⟨wr.heap.size, 0, none⟩ 1 1 [.string (s.extract start k)] rfl rfl (cell_one_new _ _ _) (by simp [Value.oneCell']) (by unfold maxLen; omega) (by omega) (by have := hBN.size; simp; omega) ?_; intro v2 w2 hown2 hgrow2 _; clear tok1; obtain ⟨g2, cap2, rfl⟩ := ownsRow_succ hown2; obtain ⟨r1, r2⟩ := next_row hrow hBN hown2 hgrow2) | (at_builtin; refine wpList_append_own _ rfl _ _ 23 rfl w.heap.size 9 i0 (.string ⟨#[]⟩) 1 16 Try.underlying23 hi hz0 hz1 hz2 rfl (by decide) _ _ _ rfl (r1.alloc _) ⟨w2.heap.size, 0, none⟩ 1 1 [.string (s.extract k (k + 1))] rfl rfl (cell_one_new _ _ _) (by simp [Value.oneCell']) (by unfold maxLen; omega) (by omega) (by have := r2.size; simp; omega) ?_; intro v4 w4 hown4 hgrow4 _; obtain ⟨g4, cap4, rfl⟩ := ownsRow_succ hown4))
                obtain ⟨r3, r4⟩ := next_row r1 r2 hown4 hgrow4
                go_roundw
                case rel => exact ⟨k + 1, k + 1, (pre ++ [s.extract start k]) ++ [s.extract k (k + 1)], by go_num, by go_num, by omega, by omega, HE1, by rw [List.length_append, List.length_append]; exact r3, hide r4⟩
                case measure => simp [intOf] <;> omega
              · obtain rfl : start = k := by omega
                have HE1 : Hid (Far s (start + 1) (start + 1) (pre ++ [s.extract start (start + 1)])) := hide (.inl ⟨by omega, Nat.le_refl _, by rw [unhide HE, rest_br0 s start hp hbl (unhide HBR)]; simp, unhide HA1⟩)
                have hBN := unhide HB
                go_wp2_with (first | (go_at_call 42; refine (l1Fine_any _ _).mono ?_; rintro e w' ⟨rfl, rfl⟩; rw [hfi]) | (go_at_call 43; refine (l1Blank_any _ _).mono ?_; rintro e w' ⟨rfl, rfl⟩; rw [hbl]) | (at_builtin; refine wpList_append_own _ rfl _ _ 23 rfl w.heap.size 9 i0 (.string ⟨#[]⟩) 1 16 Try.underlying23 hi hz0 hz1 hz2 rfl (by decide) _ _ _ rfl (hrow.alloc _) ⟨wr.heap.size, 0, none⟩ 1 1 [.string (s.extract start (start + 1))] rfl rfl (cell_one_new _ _ _) (by simp [Value.oneCell']) (by unfold maxLen; omega) (by omega) (by have := hBN.size; simp; omega) ?_; intro v2 w2 hown2 hgrow2 _; obtain ⟨g2, cap2, rfl⟩ := ownsRow_succ hown2))
                obtain ⟨r1, r2⟩ := next_row hrow hBN hown2 hgrow2
                go_roundw
                case rel => exact ⟨start + 1, start + 1, pre ++ [s.extract start (start + 1)], by go_num, by go_num, by omega, by omega, HE1, by rw [List.length_append]; exact r1, hide r2⟩
                case measure => simp [intOf] <;> omega
          | true =>
            have n40 : (((s[k]'hp).toNat : Int) != 40) = false := by simp only [bne, h40]; rfl
            have HBR : Hid (bracket (s[k]'hp) = true) := hide (by rw [unhide HRI, h40]; rfl)
            clear h40
            by_cases hst : start < k
            · have HE1 : Hid (Far s (k + 1) (k + 1) ((pre ++ [s.extract start k]) ++ [s.extract k (k + 1)])) := hide (.inl ⟨by omega, Nat.le_refl _, by rw [unhide HE, rest_br1 s start k hst hp hbl (unhide HBR)]; simp, unhide HA1⟩)
              have hBN := unhide HB
              have tok1 : True := trivial
              go_wp2_with (first | (go_at_call 42; refine (l1Fine_any _ _).mono ?_; rintro e w' ⟨rfl, rfl⟩; rw [hfi]) | (go_at_call 43; refine (l1Blank_any _ _).mono ?_; rintro e w' ⟨rfl, rfl⟩; rw [hbl]) | (at_builtin; have _t := tok1; refine wpList_append_own _ rfl _ _ 23 rfl w.heap.size 9 i0 (.string ⟨#[]⟩) 1 16 Try.underlying23 hi hz0 hz1 hz2 rfl (by decide) _ _ _ rfl (hrow.alloc _) ⟨wr.heap.size, 0, none⟩ 1 1 [.string (s.extract start k)] rfl rfl (cell_one_new _ _ _) (by simp [Value.oneCell']) (by unfold maxLen; omega) (by omega) (by have := hBN.size; simp; omega) ?_; intro v2 w2 hown2 hgrow2 _; clear tok1; obtain ⟨g2, cap2, rfl⟩ := ownsRow_succ hown2; obtain ⟨r1, r2⟩ := next_row hrow hBN hown2 hgrow2) | (at_builtin; refine wpList_append_own _ rfl _ _ 23 rfl w.heap.size 9 i0 (.string ⟨#[]⟩) 1 16 Try.underlying23 hi hz0 hz1 hz2 rfl (by decide) _ _ _ rfl (r1.alloc _) ⟨w2.heap.size, 0, none⟩ 1 1 [.string (s.extract k (k + 1))] rfl rfl (cell_one_new _ _ _) (by simp [Value.oneCell']) (by unfold maxLen; omega) (by omega) (by have := r2.size; simp; omega) ?_; intro v4 w4 hown4 hgrow4 _; obtain ⟨g4, cap4, rfl⟩ := ownsRow_succ hown4))
              obtain ⟨r3, r4⟩ := next_row r1 r2 hown4 hgrow4
              go_roundw
              case rel => exact ⟨k + 1, k + 1, (pre ++ [s.extract start k]) ++ [s.extract k (k + 1)], by go_num, by go_num, by omega, by omega, HE1, by rw [List.length_append, List.length_append]; exact r3, hide r4⟩
              case measure => simp [intOf] <;> omega
            · obtain rfl : start = k := by omega
              have HE1 : Hid (Far s (start + 1) (start + 1) (pre ++ [s.extract start (start + 1)])) := hide (.inl ⟨by omega, Nat.le_refl _, by rw [unhide HE, rest_br0 s start hp hbl (unhide HBR)]; simp, unhide HA1⟩)
              have hBN := unhide HB
              go_wp2_with (first | (go_at_call 42; refine (l1Fine_any _ _).mono ?_; rintro e w' ⟨rfl, rfl⟩; rw [hfi]) | (go_at_call 43; refine (l1Blank_any _ _).mono ?_; rintro e w' ⟨rfl, rfl⟩; rw [hbl]) | (at_builtin; refine wpList_append_own _ rfl _ _ 23 rfl w.heap.size 9 i0 (.string ⟨#[]⟩) 1 16 Try.underlying23 hi hz0 hz1 hz2 rfl (by decide) _ _ _ rfl (hrow.alloc _) ⟨wr.heap.size, 0, none⟩ 1 1 [.string (s.extract start (start + 1))] rfl rfl (cell_one_new _ _ _) (by simp [Value.oneCell']) (by unfold maxLen; omega) (by omega) (by have := hBN.size; simp; omega) ?_; intro v2 w2 hown2 hgrow2 _; obtain ⟨g2, cap2, rfl⟩ := ownsRow_succ hown2))
              obtain ⟨r1, r2⟩ := next_row hrow hBN hown2 hgrow2
              go_roundw
              case rel => exact ⟨start + 1, start + 1, pre ++ [s.extract start (start + 1)], by go_num, by go_num, by omega, by omega, HE1, by rw [List.length_append]; exact r1, hide r2⟩
              case measure => simp [intOf] <;> omega
    · by_cases hpe : k = s.size
      · obtain rfl := hpe
        have hfar : start ≤ s.size ∧ wordsOf s = pre ++ restOf s start s.size ∧ (s.data.toList.take s.size).all fine = true := by
          rcases unhide HF with ⟨_, a, b, c⟩ | ⟨a, _⟩
          · exact ⟨a, b, c⟩
          · omega
        obtain ⟨hsk, hE, hA⟩ := hfar
        have HE := hide hE
        have HCL : Hid (cleanB s = true) := hide (by unfold cleanB; rw [← all_end s fine s.size hp]; exact hA)
        clear hE hA HF
        by_cases hst : start < s.size
        · have HE1 : Hid (Far s (s.size + 1) (s.size + 1) (pre ++ [s.extract start s.size])) := hide (.inr ⟨rfl, by rw [unhide HE, rest_end1 s start s.size hst rfl], unhide HCL⟩)
          have hBN := unhide HB
          go_wp2_with (first | (at_builtin; refine wpList_append_own _ rfl _ _ 23 rfl w.heap.size 9 i0 (.string ⟨#[]⟩) 1 16 Try.underlying23 hi hz0 hz1 hz2 rfl (by decide) _ _ _ rfl (hrow.alloc _) ⟨wr.heap.size, 0, none⟩ 1 1 [.string (s.extract start s.size)] rfl rfl (cell_one_new _ _ _) (by simp [Value.oneCell']) (by unfold maxLen; omega) (by omega) (by have := hBN.size; simp; omega) ?_; intro v2 w2 hown2 hgrow2 _; obtain ⟨g2, cap2, rfl⟩ := ownsRow_succ hown2))
          obtain ⟨r1, r2⟩ := next_row hrow hBN hown2 hgrow2
          go_roundw
          case rel => exact ⟨s.size + 1, s.size + 1, pre ++ [s.extract start s.size], by go_num, by go_num, by omega, by omega, HE1, by rw [List.length_append]; exact r1, hide r2⟩
          case measure => simp [intOf] <;> omega
        · obtain rfl : start = s.size := by omega
          have HE1 : Hid (Far s (s.size + 1) (s.size + 1) pre) := hide (.inr ⟨rfl, by rw [unhide HE, rest_end0 s s.size rfl, List.append_nil], unhide HCL⟩)
          go_wp2
          go_roundw
          case rel => exact ⟨s.size + 1, s.size + 1, pre, by go_num, by go_num, by omega, by omega, HE1, hrow, HB⟩
          case measure => simp [intOf] <;> omega
      · obtain rfl : k = s.size + 1 := by omega
        have hfar : wordsOf s = pre ∧ cleanB s = true := by
          rcases unhide HF with ⟨a, _⟩ | ⟨_, b, c⟩
          · omega
          · exact ⟨b, c⟩
        obtain ⟨hE, hC⟩ := hfar
        by_cases hmany : 1500 < pre.length
        · have HC := hide (cut_many (s := s) (by rw [hE]; exact hmany))
          clear hE hC HF
          go_wp2
          go_ret2
          exact cutsS_no (unhide HC) (unhide HB)
        · have HC := hide (cut_yes (s := s) (by omega) hC (by rw [hE]; omega))
          have HL : Hid (cutL s = pre) := hide (by unfold cutL; rw [unhide HC, hE]; rfl)
          clear hE hC HF
          go_wp2
          go_ret2
          obtain ⟨a2, cap2, e2, hw2⟩ := row_words hrow rfl
          refine ⟨a2, cap2, ?_, by rw [unhide HL]; exact hw2, unhide HB⟩
          exact ret_cut (by rw [unhide HL]; exact e2) (unhide HC).symm
end Go.Proofs.Ytkegbdlbaanapaa
