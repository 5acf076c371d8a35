/- The walks of l2Prims, l2Prim and spec.TreeArity. No conditions. The walk of l2Plain. No conditions. The walk of l2Expr out of l2Node's contract. Conditions: the tree can be read. The walk of l2Node, kind by kind. Conditions: LexName's contract. The walks of impl.TreeArity and of the law on TreeArity: it returns true and turns nothing that was there. No conditions. -/
import Derived.Test.YtffabnmgcicpiaaGreatG1
namespace Go.Proofs.YtffabnmgcicpiaaGreat
open Go.RowKit Go.PlainAid

/-- The primitives, in order. -/
def prims : List (List UInt8) := [[43], [45], [42], [47], [37], [60], [60, 61], [61], [110, 111, 116], [97, 116], [108, 101, 110], [112, 117, 116], [106, 111, 105, 110], [112, 114, 105, 110, 116], [97, 110, 100], [111, 114]]
def primAt (k : Nat) : ByteArray := ⟨(prims.getD k []).toArray⟩
/-- The number of a primitive, from 1 on; 0, if it is none. -/
def primN (l : List UInt8) : Nat := match prims.findIdx? (fun p => p == l) with | some k => k + 1 | none => 0
def noPrim (l : List UInt8) (k : Nat) : Prop := ∀ j, j < k → ((primAt j).toList == l) = false
theorem primAt_list (k : Nat) : (primAt k).toList = prims.getD k [] := by
  rw [ByteArray.toList_eq]; rfl
theorem primN_at {l : List UInt8} {k : Nat} (hk : k < 16) (hno : noPrim l k) (he : ((primAt k).toList == l) = true) : primN l = k + 1 := by
  have hl : prims.length = 16 := rfl
  have : prims.findIdx? (fun p => p == l) = some k := by
    rw [List.findIdx?_eq_some_iff_getElem]
    refine ⟨by omega, ?_, fun j hj => ?_⟩
    · rw [primAt_list] at he
      simpa [List.getD, hl, hk] using he
    · have := hno j hj
      rw [primAt_list] at this
      have hj' : j < prims.length := by omega
      simpa [List.getD, hj'] using this
  unfold primN
  rw [this]
theorem primN_none {l : List UInt8} (hno : noPrim l 16) : primN l = 0 := by
  have : prims.findIdx? (fun p => p == l) = none := by
    rw [List.findIdx?_eq_none_iff]
    intro p hp
    obtain ⟨j, hj, rfl⟩ := List.getElem_of_mem hp
    have := hno j hj
    rw [primAt_list] at this
    simpa [List.getD, hj] using this
  unfold primN
  rw [this]
theorem primN_le (l : List UInt8) : primN l ≤ 16 := by
  unfold primN
  split
  · rename_i k h
    rw [List.findIdx?_eq_some_iff_getElem] at h
    obtain ⟨h, _⟩ := h
    have : prims.length = 16 := rfl
    omega
  · omega

set_option maxHeartbeats 400000 in
theorem l2Prims_any (w : World) : Calls Tryz.prog 77 #[] w fun e w' => e = .returned (.slice (some ⟨w.heap.size, 0, none⟩) 16 16) ∧ (∀ k, k < 16 → w'.cell? ⟨w.heap.size, k, none⟩ = some (.string (primAt k))) ∧ Below w.heap.size w w' := by
  go_enter Tryz.func77, Tryz.ntmps77
  go_wp2
  go_ret
  refine ⟨rfl, fun k hk => ?_, (Below.refl _ _).alloc (Nat.le_refl _) _⟩
  rw [alloc_cell]
  have : k = 0 ∨ k = 1 ∨ k = 2 ∨ k = 3 ∨ k = 4 ∨ k = 5 ∨ k = 6 ∨ k = 7 ∨ k = 8 ∨ k = 9 ∨ k = 10 ∨ k = 11 ∨ k = 12 ∨ k = 13 ∨ k = 14 ∨ k = 15 := by omega
  rcases this with rfl | rfl | rfl | rfl | rfl | rfl | rfl | rfl | rfl | rfl | rfl | rfl | rfl | rfl | rfl | rfl <;> rfl

set_option maxHeartbeats 400000 in
theorem l2Prim_any (s : ByteArray) (w : World) : Calls Tryz.prog 61 #[.string s] w fun e w' => e = .returned (.int .i64 (primN s.toList : Nat)) ∧ Below w.heap.size w w' := by
  go_enter Tryz.func61, Tryz.ntmps61
  go_wp2_with fail
  refine (l2Prims_any w).mono ?_
  rintro r w2 ⟨rfl, hc, hb⟩
  have HC := hide hc
  have HB := hide hb
  clear hc hb
  go_wp2
  go_loop [4] (fun i => ∃ k : Nat, k ≤ 16 ∧ i = .int .i64 k ∧ Hid (noPrim s.toList k)) (fun i => 16 - (intOf i).toNat)
  case atStart => exact ⟨0, by omega, rfl, hide (fun j hj => absurd hj (Nat.not_lt_zero _))⟩
  case round =>
    obtain ⟨k, hk, rfl, HN⟩ := hrel
    by_cases hp : k < 16
    · have hck := unhide HC k hp
      obtain ⟨x, hx⟩ : ∃ x, primAt k = x := ⟨_, rfl⟩
      rw [hx] at hck
      cases he : (x.toList == s.toList) with
      | true =>
        have HF := hide (primN_at hp (unhide HN) (by rw [hx]; exact he))
        clear hx
        go_wp2
        go_ret
        exact ⟨ret_int (by rw [unhide HF]; omega), unhide HB⟩
      | false =>
        have HX := hide hx
        have HE := hide he
        clear hx
        go_wp2
        go_round
        case rel => exact ⟨k + 1, by omega, by go_num, hide (fun j hj => by
          by_cases e : j = k
          · subst e; rw [unhide HX]; exact unhide HE
          · exact unhide HN j (by omega))⟩
        case measure => simp [intOf]; omega
    · have HF := hide (primN_none (l := s.toList) (fun j hj => unhide HN j (by omega)))
      go_wp2
      go_ret
      exact ⟨ret_int (by rw [unhide HF]; rfl), unhide HB⟩

/-- How many operands a primitive has, by its number. -/
def arityI (n : Nat) : Int := if n = 0 then -1 else if n = 9 ∨ n = 11 ∨ n = 14 then 1 else if n = 12 then 3 else 2
set_option maxHeartbeats 400000 in
theorem TreeArityS_any (s : ByteArray) (w : World) : Calls Tryz.prog 51 #[.string s] w fun e w' => e = .returned (.int .i64 (arityI (primN s.toList))) ∧ Below w.heap.size w w' := by
  go_enter Tryz.func51, Tryz.ntmps51
  go_wp2_with fail
  refine (l2Prim_any s w).mono ?_
  rintro r w2 ⟨rfl, hb⟩
  have HB := hide hb
  have hle := primN_le s.toList
  clear hb
  obtain ⟨n, hnn⟩ : ∃ n, primN s.toList = n := ⟨_, rfl⟩
  rw [hnn] at hle ⊢
  have HNN := hide hnn
  clear hnn
  have hn : n = 0 ∨ n = 9 ∨ n = 11 ∨ n = 14 ∨ n = 12 ∨ (((n : Int) == 0) = false ∧ ((n : Int) == 9) = false ∧ ((n : Int) == 11) = false ∧ ((n : Int) == 14) = false ∧ ((n : Int) == 12) = false) := by
    simp only [beq_eq_false_iff_ne]; omega
  rcases hn with rfl | rfl | rfl | rfl | rfl | ⟨n0, n9, n11, n14, n12⟩
  iterate 5
    · go_wp2
      go_ret
      exact ⟨ret_int (by rw [unhide HNN]; rfl), unhide HB⟩
  · have HF : Hid (arityI n = 2) := hide (by
      unfold arityI
      simp only [beq_eq_false_iff_ne] at n0 n9 n11 n14 n12
      rw [if_neg (by omega), if_neg (by omega), if_neg (by omega)])
    go_wp2
    go_ret
    exact ⟨ret_int (by rw [unhide HNN, unhide HF]), unhide HB⟩
end Go.Proofs.YtffabnmgcicpiaaGreat

namespace Go.Proofs.YtffabnmgcicpiaaGreat
open Go.RowKit Go.PlainAid

/-- The parts that a kind has not are nothing. -/
def plainB (m : Int) (nm md : ByteArray) (p q r : Bool) : Bool := ((p || (m == 0)) && (q || (nm.toList == []))) && (r || (md.toList == []))
set_option maxHeartbeats 4000000 in
theorem l2Plain_any (k m : Int) (nm md : ByteArray) (a : Option Addr) (len cap : Nat) (p q r : Bool) (w : World) :
    Calls Tryz.prog 50 #[.agg #[.int .i64 k, .int .i64 m, .string nm, .string md, .slice a len cap], .bool p, .bool q, .bool r] w fun e w' => e = .returned (.bool (plainB m nm md p q r)) ∧ Below w.heap.size w w' := by
  unfold plainB
  cases z1 : (m == 0) <;> cases z2 : (nm.toList == []) <;> cases z3 : (md.toList == []) <;> cases p <;> cases q <;> cases r
  all_goals
    go_enter Tryz.func50, Tryz.ntmps50
    go_wp2
    go_ret
    exact ⟨rfl, (Below.refl _ _).alloc (Nat.le_refl _) _⟩
end Go.Proofs.YtffabnmgcicpiaaGreat

namespace Go.Proofs.YtffabnmgcicpiaaGreat
open Go.RowKit Go.PlainAid

/-- An expression is right, but for what is in it. -/
def nodeB (k m : Int) (nm md : ByteArray) (n : Nat) : Bool :=
  if k = 1 then (decide (n = 0) && plainB m nm md true false false) && (decide (m < 100000000000000000) && decide (-100000000000000000 < m))
  else if k = 2 then (decide (n = 0) && plainB m nm md true false false) && (decide (m = 0) || decide (m = 1))
  else if k = 3 then (decide (n = 0) && plainB m nm md false true false) && nameB nm.data.toList
  else if k = 4 then plainB m nm md false true false && decide ((n : Int) = arityI (primN nm.toList))
  else if k = 5 then decide (n = 3) && plainB m nm md false false false
  else if k = 6 then (decide (n = 2) && plainB m nm md false true false) && nameB nm.data.toList
  else if k = 7 then ((decide (n ≤ 4) && plainB m nm md false true true) && nameB nm.data.toList) && ((md.toList == []) || nameB md.data.toList)
  else if k = 8 then decide (n ≤ 8) && plainB m nm md false false false
  else false
mutual
/-- An expression is right. -/
def TE.ok : TE → Bool
  | .node k m nm md kids => nodeB k m nm md kids.length && okL kids
def okL : List TE → Bool
  | [] => true
  | e :: t => e.ok && okL t
end
theorem okL_all : ∀ l : List TE, okL l = l.all TE.ok
  | [] => rfl
  | e :: t => by rw [okL, List.all_cons, okL_all t]
theorem ok_step (kids : List TE) (k : Nat) (h : k < kids.length) : okL (kids.take (k + 1)) = (okL (kids.take k) && kids[k].ok) := by
  rw [okL_all, okL_all, List.take_succ_eq_append_getElem h, List.all_append]; simp
theorem ok_bad (kids : List TE) (k : Nat) (h : k < kids.length) (hb : kids[k].ok = false) : okL kids = false := by
  rw [okL_all, List.all_eq_false]
  exact ⟨_, List.getElem_mem h, by rw [hb]; simp⟩
/-- The contract of l2Node. -/
def NodeS : Prop := ∀ (k m : Int) (nm md : ByteArray) (a : Option Addr) (len cap : Nat) (w : World), len ≤ maxLen →
  Calls Tryz.prog 35 #[.agg #[.int .i64 k, .int .i64 m, .string nm, .string md, .slice a len cap]] w fun r w' => r = .returned (.bool (nodeB k m nm md len)) ∧ Below w.heap.size w w'

set_option maxHeartbeats 1000000 in
theorem l2Expr_any (HN : NodeS) (lo : Nat) : ∀ (h : Nat) (v : Value) (e : TE) (w : World), IsE w lo w.heap.size h v e →
    Calls Tryz.prog 19 #[v] w fun r w' => r = .returned (.bool e.ok) ∧ Below w.heap.size w w' := by
  intro h
  induction h with
  | zero => intro v e w hE; exact hE.elim
  | succ h ih =>
    intro v e w hE
    obtain ⟨kd, m, nm, md, kids⟩ := e
    obtain ⟨a, cap, rfl, ⟨_, _, hs3⟩, hk⟩ := hE
    have HNN := hide (fun w => HN kd m nm md a kids.length cap w hs3)
    unfold maxLen at hs3
    have HK := hide hk
    have IH := hide ih
    clear ih hk HN
    have HOK : Hid ((TE.node kd m nm md kids).ok = (nodeB kd m nm md kids.length && okL kids)) := hide (by rw [TE.ok])
    go_enter Tryz.func19, Tryz.ntmps19
    go_wp2_with fail
    refine (unhide HNN _).mono ?_
    rintro r w1 ⟨rfl, hb1⟩
    have hB1 : Below w.heap.size w w1 := ((Below.refl _ _).alloc (Nat.le_refl _) _).trans (hb1.mono (by simp))
    have hz1 : w.heap.size < w1.heap.size := by have := hb1.size; rw [alloc_size] at this; omega
    have hc1 : w1.cell? ⟨w.heap.size, 4, none⟩ = some (.slice a kids.length cap) := (hb1.cell (p := ⟨w.heap.size, 4, none⟩) (by simp)).trans (by simp)
    have HB1 := hide hB1
    have HZ1 := hide hz1
    clear hb1 hB1 hz1
    cases hnb : nodeB kd m nm md kids.length with
    | false =>
      have HF : Hid ((TE.node kd m nm md kids).ok = false) := hide (by rw [unhide HOK, hnb]; rfl)
      go_wp2
      go_ret
      exact ⟨ret_bool (unhide HF).symm, unhide HB1⟩
    | true =>
      have HO : Hid ((TE.node kd m nm md kids).ok = okL kids) := hide (by rw [unhide HOK, hnb]; rfl)
      clear HOK
      go_wp2
      go_loopw [3] (fun i wr => ∃ k : Nat, k ≤ kids.length ∧ i = .int .i64 k ∧ Hid (okL (kids.take k) = true) ∧ wr.cell? ⟨w.heap.size, 4, none⟩ = some (.slice a kids.length cap) ∧ Hid (w.heap.size < wr.heap.size) ∧ Hid (Below w.heap.size w wr)) (fun i _ => kids.length - (intOf i).toNat)
      case atStart => exact ⟨0, Nat.zero_le _, rfl, hide rfl, hc1, HZ1, HB1⟩
      case round =>
        obtain ⟨k, hk, rfl, HS, hc, HZ, HB⟩ := hrel
        by_cases hp : k < kids.length
        · rcases (unhide HK).kept (unhide HB) (unhide HB).size with hq | ⟨b, off, rfl, hbl, hbn, hcs⟩
          · rw [hq] at hp; simp at hp
          obtain ⟨c0, c1, c2, c3, c4, d0, d1, d2, d3, d4, hr⟩ := hcs k hp
          have hs1 := ok_step kids k hp
          have hs2 := ok_bad kids k hp
          generalize kids[k] = e at hr hs1 hs2
          have HR := hide hr
          have HX1 := hide hs1
          have HX2 := hide hs2
          clear hcs hr hs1 hs2
          go_wp2_with fail
          refine (unhide IH _ e wr (unhide HR)).mono ?_
          rintro r w2 ⟨rfl, hb2⟩
          have hc2 : w2.cell? ⟨w.heap.size, 4, none⟩ = some (.slice (some ⟨b, off, none⟩) kids.length cap) := (hb2.cell (p := ⟨w.heap.size, 4, none⟩) (unhide HZ)).trans hc
          have HB2 := hide ((unhide HB).trans (hb2.mono (unhide HB).size))
          have HZ2 : Hid (w.heap.size < w2.heap.size) := hide (by have := unhide HZ; have := hb2.size; omega)
          clear hb2 hc HB HZ d0 d1 d2 d3 d4 HR
          cases hok : e.ok with
          | true =>
            have HN2 : Hid (okL (kids.take (k + 1)) = true) := hide (by rw [unhide HX1, unhide HS, hok]; rfl)
            go_wp2
            go_roundw
            case rel => exact ⟨k + 1, by omega, by go_num, HN2, hc2, HZ2, HB2⟩
            case measure => simp [intOf] <;> omega
          | false =>
            have HF : Hid ((TE.node kd m nm md kids).ok = false) := hide (by rw [unhide HO]; exact unhide HX2 hok)
            go_wp2
            go_ret
            exact ⟨ret_bool (unhide HF).symm, unhide HB2⟩
        · have HF : Hid ((TE.node kd m nm md kids).ok = true) := hide (by
            have e : kids.take k = kids := List.take_of_length_le (by omega)
            rw [unhide HO, ← e]; exact unhide HS)
          go_wp2
          go_ret
          exact ⟨ret_bool (unhide HF).symm, unhide HB⟩
end Go.Proofs.YtffabnmgcicpiaaGreat

namespace Go.Proofs.YtffabnmgcicpiaaGreat
open Go.RowKit Go.PlainAid

/-- The contract of spec.LexName. -/
def NameS : Prop := ∀ (s : ByteArray) (w : World), Calls Tryz.prog 32 #[.string s] w fun e w' => e = .returned (.bool (nameB s.data.toList)) ∧ Below w.heap.size w w'
def Node1 (k m : Int) (nm md : ByteArray) (a : Option Addr) (len cap : Nat) (w : World) : Prop :=
  Calls Tryz.prog 35 #[.agg #[.int .i64 k, .int .i64 m, .string nm, .string md, .slice a len cap]] w fun r w' => r = .returned (.bool (nodeB k m nm md len)) ∧ Below w.heap.size w w'

set_option maxHeartbeats 1000000 in
theorem node5 (m : Int) (nm md : ByteArray) (a : Option Addr) (len cap : Nat) (w : World) (_hl : len ≤ maxLen) : Node1 5 m nm md a len cap w := by
  unfold Node1
  have hn : nodeB 5 m nm md len = (decide (len = 3) && plainB m nm md false false false) := rfl
  rw [hn]
  cases h3 : ((len : Int) == 3) with
  | false =>
    have HF : Hid (decide (len = 3) = false) := hide (by rw [decide_eq_false_iff_not]; rw [beq_eq_false_iff_ne] at h3; omega)
    go_enter Tryz.func35, Tryz.ntmps35
    go_wp2
    go_ret
    exact ⟨ret_bool (by rw [unhide HF]; rfl), (Below.refl _ _).alloc (Nat.le_refl _) _⟩
  | true =>
    have HF : Hid (decide (len = 3) = true) := hide (by rw [decide_eq_true_eq]; rw [beq_iff_eq] at h3; omega)
    cases zp : plainB m nm md false false false with
    | false =>
      go_enter Tryz.func35, Tryz.ntmps35
      go_wp2_with fail
      refine (l2Plain_any _ m nm md a len cap false false false _).mono ?_
      rintro r w2 ⟨rfl, hb2⟩
      have hcc := fun i => (hb2.cell (p := ⟨w.heap.size, i, none⟩) (by simp)).trans (alloc_cell _ _ _ _)
      have hc1 : w2.cell? ⟨w.heap.size, 1, none⟩ = some (.int .i64 m) := hcc 1
      have hc2 : w2.cell? ⟨w.heap.size, 2, none⟩ = some (.string nm) := hcc 2
      have hc3 : w2.cell? ⟨w.heap.size, 3, none⟩ = some (.string md) := hcc 3
      have HB2 := hide (((Below.refl w.heap.size w).alloc (Nat.le_refl _) _).trans (hb2.mono (by simp)))
      clear hb2 hcc
      rw [zp]
      go_wp2
      go_ret
      exact ⟨ret_bool (by rw [unhide HF]; rfl), unhide HB2⟩
    | true =>
      go_enter Tryz.func35, Tryz.ntmps35
      go_wp2_with fail
      refine (l2Plain_any _ m nm md a len cap false false false _).mono ?_
      rintro r w2 ⟨rfl, hb2⟩
      have hcc := fun i => (hb2.cell (p := ⟨w.heap.size, i, none⟩) (by simp)).trans (alloc_cell _ _ _ _)
      have hc1 : w2.cell? ⟨w.heap.size, 1, none⟩ = some (.int .i64 m) := hcc 1
      have hc2 : w2.cell? ⟨w.heap.size, 2, none⟩ = some (.string nm) := hcc 2
      have hc3 : w2.cell? ⟨w.heap.size, 3, none⟩ = some (.string md) := hcc 3
      have HB2 := hide (((Below.refl w.heap.size w).alloc (Nat.le_refl _) _).trans (hb2.mono (by simp)))
      clear hb2 hcc
      rw [zp]
      go_wp2
      go_ret
      exact ⟨ret_bool (by rw [unhide HF]; rfl), unhide HB2⟩

set_option maxHeartbeats 1000000 in
theorem node8 (m : Int) (nm md : ByteArray) (a : Option Addr) (len cap : Nat) (w : World) (hl : len ≤ maxLen) : Node1 8 m nm md a len cap w := by
  unfold Node1
  unfold maxLen at hl
  have hn : nodeB 8 m nm md len = (decide (len ≤ 8) && plainB m nm md false false false) := rfl
  rw [hn]
  by_cases h3 : 8 < len
  ·
    have HF : Hid (decide (len ≤ 8) = false) := hide (by rw [decide_eq_false_iff_not]; omega)
    go_enter Tryz.func35, Tryz.ntmps35
    go_wp2
    go_ret
    exact ⟨ret_bool (by rw [unhide HF]; rfl), (Below.refl _ _).alloc (Nat.le_refl _) _⟩
  ·
    have HF : Hid (decide (len ≤ 8) = true) := hide (by rw [decide_eq_true_eq]; omega)
    cases zp : plainB m nm md false false false with
    | false =>
      go_enter Tryz.func35, Tryz.ntmps35
      go_wp2_with fail
      refine (l2Plain_any _ m nm md a len cap false false false _).mono ?_
      rintro r w2 ⟨rfl, hb2⟩
      have hcc := fun i => (hb2.cell (p := ⟨w.heap.size, i, none⟩) (by simp)).trans (alloc_cell _ _ _ _)
      have hc1 : w2.cell? ⟨w.heap.size, 1, none⟩ = some (.int .i64 m) := hcc 1
      have hc2 : w2.cell? ⟨w.heap.size, 2, none⟩ = some (.string nm) := hcc 2
      have hc3 : w2.cell? ⟨w.heap.size, 3, none⟩ = some (.string md) := hcc 3
      have HB2 := hide (((Below.refl w.heap.size w).alloc (Nat.le_refl _) _).trans (hb2.mono (by simp)))
      clear hb2 hcc
      rw [zp]
      go_wp2
      go_ret
      exact ⟨ret_bool (by rw [unhide HF]; rfl), unhide HB2⟩
    | true =>
      go_enter Tryz.func35, Tryz.ntmps35
      go_wp2_with fail
      refine (l2Plain_any _ m nm md a len cap false false false _).mono ?_
      rintro r w2 ⟨rfl, hb2⟩
      have hcc := fun i => (hb2.cell (p := ⟨w.heap.size, i, none⟩) (by simp)).trans (alloc_cell _ _ _ _)
      have hc1 : w2.cell? ⟨w.heap.size, 1, none⟩ = some (.int .i64 m) := hcc 1
      have hc2 : w2.cell? ⟨w.heap.size, 2, none⟩ = some (.string nm) := hcc 2
      have hc3 : w2.cell? ⟨w.heap.size, 3, none⟩ = some (.string md) := hcc 3
      have HB2 := hide (((Below.refl w.heap.size w).alloc (Nat.le_refl _) _).trans (hb2.mono (by simp)))
      clear hb2 hcc
      rw [zp]
      go_wp2
      go_ret
      exact ⟨ret_bool (by rw [unhide HF]; rfl), unhide HB2⟩

set_option maxHeartbeats 1000000 in
theorem node1 (m : Int) (nm md : ByteArray) (a : Option Addr) (len cap : Nat) (w : World) (_hl : len ≤ maxLen) : Node1 1 m nm md a len cap w := by
  unfold Node1
  have hn : nodeB 1 m nm md len = ((decide (len = 0) && plainB m nm md true false false) && (decide (m < 100000000000000000) && decide (-100000000000000000 < m))) := rfl
  rw [hn]
  cases h3 : ((len : Int) == 0) with
  | false =>
    have HF : Hid (decide (len = 0) = false) := hide (by rw [decide_eq_false_iff_not]; rw [beq_eq_false_iff_ne] at h3; omega)
    go_enter Tryz.func35, Tryz.ntmps35
    go_wp2
    go_ret
    exact ⟨ret_bool (by rw [unhide HF]; rfl), (Below.refl _ _).alloc (Nat.le_refl _) _⟩
  | true =>
    have HF : Hid (decide (len = 0) = true) := hide (by rw [decide_eq_true_eq]; rw [beq_iff_eq] at h3; omega)
    cases zp : plainB m nm md true false false with
    | false =>
      go_enter Tryz.func35, Tryz.ntmps35
      go_wp2_with fail
      refine (l2Plain_any _ m nm md a len cap true false false _).mono ?_
      rintro r w2 ⟨rfl, hb2⟩
      have hcc := fun i => (hb2.cell (p := ⟨w.heap.size, i, none⟩) (by simp)).trans (alloc_cell _ _ _ _)
      have hc1 : w2.cell? ⟨w.heap.size, 1, none⟩ = some (.int .i64 m) := hcc 1
      have hc2 : w2.cell? ⟨w.heap.size, 2, none⟩ = some (.string nm) := hcc 2
      have hc3 : w2.cell? ⟨w.heap.size, 3, none⟩ = some (.string md) := hcc 3
      have HB2 := hide (((Below.refl w.heap.size w).alloc (Nat.le_refl _) _).trans (hb2.mono (by simp)))
      clear hb2 hcc
      rw [zp]
      go_wp2
      go_ret
      exact ⟨ret_bool (by rw [unhide HF]; rfl), unhide HB2⟩
    | true =>
      by_cases g1 : m < 100000000000000000
      · have G1 : Hid (decide (m < 100000000000000000) = true) := hide (decide_eq_true g1)
        by_cases g2 : -100000000000000000 < m
        · have G2 : Hid (decide (-100000000000000000 < m) = true) := hide (decide_eq_true g2)
          go_enter Tryz.func35, Tryz.ntmps35
          go_wp2_with fail
          refine (l2Plain_any _ m nm md a len cap true false false _).mono ?_
          rintro r w2 ⟨rfl, hb2⟩
          have hcc := fun i => (hb2.cell (p := ⟨w.heap.size, i, none⟩) (by simp)).trans (alloc_cell _ _ _ _)
          have hc1 : w2.cell? ⟨w.heap.size, 1, none⟩ = some (.int .i64 m) := hcc 1
          have hc2 : w2.cell? ⟨w.heap.size, 2, none⟩ = some (.string nm) := hcc 2
          have hc3 : w2.cell? ⟨w.heap.size, 3, none⟩ = some (.string md) := hcc 3
          have HB2 := hide (((Below.refl w.heap.size w).alloc (Nat.le_refl _) _).trans (hb2.mono (by simp)))
          clear hb2 hcc
          rw [zp]
          go_wp2
          go_ret
          exact ⟨ret_bool (by rw [unhide HF, unhide G1, unhide G2]; simp), unhide HB2⟩
        · have G2 : Hid (decide (-100000000000000000 < m) = false) := hide (decide_eq_false g2)
          go_enter Tryz.func35, Tryz.ntmps35
          go_wp2_with fail
          refine (l2Plain_any _ m nm md a len cap true false false _).mono ?_
          rintro r w2 ⟨rfl, hb2⟩
          have hcc := fun i => (hb2.cell (p := ⟨w.heap.size, i, none⟩) (by simp)).trans (alloc_cell _ _ _ _)
          have hc1 : w2.cell? ⟨w.heap.size, 1, none⟩ = some (.int .i64 m) := hcc 1
          have hc2 : w2.cell? ⟨w.heap.size, 2, none⟩ = some (.string nm) := hcc 2
          have hc3 : w2.cell? ⟨w.heap.size, 3, none⟩ = some (.string md) := hcc 3
          have HB2 := hide (((Below.refl w.heap.size w).alloc (Nat.le_refl _) _).trans (hb2.mono (by simp)))
          clear hb2 hcc
          rw [zp]
          go_wp2
          go_ret
          exact ⟨ret_bool (by rw [unhide HF, unhide G1, unhide G2]; simp), unhide HB2⟩
      · have G1 : Hid (decide (m < 100000000000000000) = false) := hide (decide_eq_false g1)
        go_enter Tryz.func35, Tryz.ntmps35
        go_wp2_with fail
        refine (l2Plain_any _ m nm md a len cap true false false _).mono ?_
        rintro r w2 ⟨rfl, hb2⟩
        have hcc := fun i => (hb2.cell (p := ⟨w.heap.size, i, none⟩) (by simp)).trans (alloc_cell _ _ _ _)
        have hc1 : w2.cell? ⟨w.heap.size, 1, none⟩ = some (.int .i64 m) := hcc 1
        have hc2 : w2.cell? ⟨w.heap.size, 2, none⟩ = some (.string nm) := hcc 2
        have hc3 : w2.cell? ⟨w.heap.size, 3, none⟩ = some (.string md) := hcc 3
        have HB2 := hide (((Below.refl w.heap.size w).alloc (Nat.le_refl _) _).trans (hb2.mono (by simp)))
        clear hb2 hcc
        rw [zp]
        go_wp2
        go_ret
        exact ⟨ret_bool (by rw [unhide HF, unhide G1]; rfl), unhide HB2⟩

set_option maxHeartbeats 1000000 in
theorem node2 (m : Int) (nm md : ByteArray) (a : Option Addr) (len cap : Nat) (w : World) (_hl : len ≤ maxLen) : Node1 2 m nm md a len cap w := by
  unfold Node1
  have hn : nodeB 2 m nm md len = ((decide (len = 0) && plainB m nm md true false false) && (decide (m = 0) || decide (m = 1))) := rfl
  rw [hn]
  cases h3 : ((len : Int) == 0) with
  | false =>
    have HF : Hid (decide (len = 0) = false) := hide (by rw [decide_eq_false_iff_not]; rw [beq_eq_false_iff_ne] at h3; omega)
    go_enter Tryz.func35, Tryz.ntmps35
    go_wp2
    go_ret
    exact ⟨ret_bool (by rw [unhide HF]; rfl), (Below.refl _ _).alloc (Nat.le_refl _) _⟩
  | true =>
    have HF : Hid (decide (len = 0) = true) := hide (by rw [decide_eq_true_eq]; rw [beq_iff_eq] at h3; omega)
    cases zp : plainB m nm md true false false with
    | false =>
      go_enter Tryz.func35, Tryz.ntmps35
      go_wp2_with fail
      refine (l2Plain_any _ m nm md a len cap true false false _).mono ?_
      rintro r w2 ⟨rfl, hb2⟩
      have hcc := fun i => (hb2.cell (p := ⟨w.heap.size, i, none⟩) (by simp)).trans (alloc_cell _ _ _ _)
      have hc1 : w2.cell? ⟨w.heap.size, 1, none⟩ = some (.int .i64 m) := hcc 1
      have hc2 : w2.cell? ⟨w.heap.size, 2, none⟩ = some (.string nm) := hcc 2
      have hc3 : w2.cell? ⟨w.heap.size, 3, none⟩ = some (.string md) := hcc 3
      have HB2 := hide (((Below.refl w.heap.size w).alloc (Nat.le_refl _) _).trans (hb2.mono (by simp)))
      clear hb2 hcc
      rw [zp]
      go_wp2
      go_ret
      exact ⟨ret_bool (by rw [unhide HF]; rfl), unhide HB2⟩
    | true =>
      cases g1 : (m == 0) with
      | true =>
        have G1 : Hid (decide (m = 0) = true) := hide (by rw [decide_eq_true_eq]; exact beq_iff_eq.1 g1)
        go_enter Tryz.func35, Tryz.ntmps35
        go_wp2_with fail
        refine (l2Plain_any _ m nm md a len cap true false false _).mono ?_
        rintro r w2 ⟨rfl, hb2⟩
        have hcc := fun i => (hb2.cell (p := ⟨w.heap.size, i, none⟩) (by simp)).trans (alloc_cell _ _ _ _)
        have hc1 : w2.cell? ⟨w.heap.size, 1, none⟩ = some (.int .i64 m) := hcc 1
        have hc2 : w2.cell? ⟨w.heap.size, 2, none⟩ = some (.string nm) := hcc 2
        have hc3 : w2.cell? ⟨w.heap.size, 3, none⟩ = some (.string md) := hcc 3
        have HB2 := hide (((Below.refl w.heap.size w).alloc (Nat.le_refl _) _).trans (hb2.mono (by simp)))
        clear hb2 hcc
        rw [zp]
        go_wp2
        go_ret
        exact ⟨ret_bool (by rw [unhide HF, unhide G1]; rfl), unhide HB2⟩
      | false =>
        have G1 : Hid (decide (m = 0) = false) := hide (by rw [decide_eq_false_iff_not]; exact beq_eq_false_iff_ne.1 g1)
        cases g2 : (m == 1) with
        | true =>
          have G2 : Hid (decide (m = 1) = true) := hide (by rw [decide_eq_true_eq]; exact beq_iff_eq.1 g2)
          go_enter Tryz.func35, Tryz.ntmps35
          go_wp2_with fail
          refine (l2Plain_any _ m nm md a len cap true false false _).mono ?_
          rintro r w2 ⟨rfl, hb2⟩
          have hcc := fun i => (hb2.cell (p := ⟨w.heap.size, i, none⟩) (by simp)).trans (alloc_cell _ _ _ _)
          have hc1 : w2.cell? ⟨w.heap.size, 1, none⟩ = some (.int .i64 m) := hcc 1
          have hc2 : w2.cell? ⟨w.heap.size, 2, none⟩ = some (.string nm) := hcc 2
          have hc3 : w2.cell? ⟨w.heap.size, 3, none⟩ = some (.string md) := hcc 3
          have HB2 := hide (((Below.refl w.heap.size w).alloc (Nat.le_refl _) _).trans (hb2.mono (by simp)))
          clear hb2 hcc
          rw [zp]
          go_wp2
          go_ret
          exact ⟨ret_bool (by rw [unhide HF, unhide G1, unhide G2]; rfl), unhide HB2⟩
        | false =>
          have G2 : Hid (decide (m = 1) = false) := hide (by rw [decide_eq_false_iff_not]; exact beq_eq_false_iff_ne.1 g2)
          go_enter Tryz.func35, Tryz.ntmps35
          go_wp2_with fail
          refine (l2Plain_any _ m nm md a len cap true false false _).mono ?_
          rintro r w2 ⟨rfl, hb2⟩
          have hcc := fun i => (hb2.cell (p := ⟨w.heap.size, i, none⟩) (by simp)).trans (alloc_cell _ _ _ _)
          have hc1 : w2.cell? ⟨w.heap.size, 1, none⟩ = some (.int .i64 m) := hcc 1
          have hc2 : w2.cell? ⟨w.heap.size, 2, none⟩ = some (.string nm) := hcc 2
          have hc3 : w2.cell? ⟨w.heap.size, 3, none⟩ = some (.string md) := hcc 3
          have HB2 := hide (((Below.refl w.heap.size w).alloc (Nat.le_refl _) _).trans (hb2.mono (by simp)))
          clear hb2 hcc
          rw [zp]
          go_wp2
          go_ret
          exact ⟨ret_bool (by rw [unhide HF, unhide G1, unhide G2]; rfl), unhide HB2⟩

set_option maxHeartbeats 1000000 in
theorem node3 (HN : NameS) (m : Int) (nm md : ByteArray) (a : Option Addr) (len cap : Nat) (w : World) (_hl : len ≤ maxLen) : Node1 3 m nm md a len cap w := by
  unfold Node1
  have hn : nodeB 3 m nm md len = ((decide (len = 0) && plainB m nm md false true false) && nameB nm.data.toList) := rfl
  rw [hn]
  cases h3 : ((len : Int) == 0) with
  | false =>
    have HF : Hid (decide (len = 0) = false) := hide (by rw [decide_eq_false_iff_not]; rw [beq_eq_false_iff_ne] at h3; omega)
    go_enter Tryz.func35, Tryz.ntmps35
    go_wp2
    go_ret
    exact ⟨ret_bool (by rw [unhide HF]; rfl), (Below.refl _ _).alloc (Nat.le_refl _) _⟩
  | true =>
    have HF : Hid (decide (len = 0) = true) := hide (by rw [decide_eq_true_eq]; rw [beq_iff_eq] at h3; omega)
    cases zp : plainB m nm md false true false with
    | false =>
      go_enter Tryz.func35, Tryz.ntmps35
      go_wp2_with fail
      refine (l2Plain_any _ m nm md a len cap false true false _).mono ?_
      rintro r w2 ⟨rfl, hb2⟩
      have hcc := fun i => (hb2.cell (p := ⟨w.heap.size, i, none⟩) (by simp)).trans (alloc_cell _ _ _ _)
      have hc1 : w2.cell? ⟨w.heap.size, 1, none⟩ = some (.int .i64 m) := hcc 1
      have hc2 : w2.cell? ⟨w.heap.size, 2, none⟩ = some (.string nm) := hcc 2
      have hc3 : w2.cell? ⟨w.heap.size, 3, none⟩ = some (.string md) := hcc 3
      have HB2 := hide (((Below.refl w.heap.size w).alloc (Nat.le_refl _) _).trans (hb2.mono (by simp)))
      clear hb2 hcc
      rw [zp]
      go_wp2
      go_ret
      exact ⟨ret_bool (by rw [unhide HF]; rfl), unhide HB2⟩
    | true =>
      cases hb : nameB nm.data.toList with
      | true =>
        go_enter Tryz.func35, Tryz.ntmps35
        go_wp2_with fail
        refine (l2Plain_any _ m nm md a len cap false true false _).mono ?_
        rintro r w2 ⟨rfl, hb2⟩
        have hcc := fun i => (hb2.cell (p := ⟨w.heap.size, i, none⟩) (by simp)).trans (alloc_cell _ _ _ _)
        have hc1 : w2.cell? ⟨w.heap.size, 1, none⟩ = some (.int .i64 m) := hcc 1
        have hc2 : w2.cell? ⟨w.heap.size, 2, none⟩ = some (.string nm) := hcc 2
        have hc3 : w2.cell? ⟨w.heap.size, 3, none⟩ = some (.string md) := hcc 3
        have HB2 := hide (((Below.refl w.heap.size w).alloc (Nat.le_refl _) _).trans (hb2.mono (by simp)))
        clear hb2 hcc
        rw [zp]
        go_wp2_with fail
        refine (HN nm _).mono ?_
        rintro r w3 ⟨rfl, hb3⟩
        have HB3 := hide ((unhide HB2).trans (hb3.mono (unhide HB2).size))
        clear hb3
        rw [hb]
        go_wp2
        go_ret
        exact ⟨ret_bool (by rw [unhide HF]; rfl), unhide HB3⟩
      | false =>
        go_enter Tryz.func35, Tryz.ntmps35
        go_wp2_with fail
        refine (l2Plain_any _ m nm md a len cap false true false _).mono ?_
        rintro r w2 ⟨rfl, hb2⟩
        have hcc := fun i => (hb2.cell (p := ⟨w.heap.size, i, none⟩) (by simp)).trans (alloc_cell _ _ _ _)
        have hc1 : w2.cell? ⟨w.heap.size, 1, none⟩ = some (.int .i64 m) := hcc 1
        have hc2 : w2.cell? ⟨w.heap.size, 2, none⟩ = some (.string nm) := hcc 2
        have hc3 : w2.cell? ⟨w.heap.size, 3, none⟩ = some (.string md) := hcc 3
        have HB2 := hide (((Below.refl w.heap.size w).alloc (Nat.le_refl _) _).trans (hb2.mono (by simp)))
        clear hb2 hcc
        rw [zp]
        go_wp2_with fail
        refine (HN nm _).mono ?_
        rintro r w3 ⟨rfl, hb3⟩
        have HB3 := hide ((unhide HB2).trans (hb3.mono (unhide HB2).size))
        clear hb3
        rw [hb]
        go_wp2
        go_ret
        exact ⟨ret_bool (by rw [unhide HF]; rfl), unhide HB3⟩

set_option maxHeartbeats 1000000 in
theorem node6 (HN : NameS) (m : Int) (nm md : ByteArray) (a : Option Addr) (len cap : Nat) (w : World) (_hl : len ≤ maxLen) : Node1 6 m nm md a len cap w := by
  unfold Node1
  have hn : nodeB 6 m nm md len = ((decide (len = 2) && plainB m nm md false true false) && nameB nm.data.toList) := rfl
  rw [hn]
  cases h3 : ((len : Int) == 2) with
  | false =>
    have HF : Hid (decide (len = 2) = false) := hide (by rw [decide_eq_false_iff_not]; rw [beq_eq_false_iff_ne] at h3; omega)
    go_enter Tryz.func35, Tryz.ntmps35
    go_wp2
    go_ret
    exact ⟨ret_bool (by rw [unhide HF]; rfl), (Below.refl _ _).alloc (Nat.le_refl _) _⟩
  | true =>
    have HF : Hid (decide (len = 2) = true) := hide (by rw [decide_eq_true_eq]; rw [beq_iff_eq] at h3; omega)
    cases zp : plainB m nm md false true false with
    | false =>
      go_enter Tryz.func35, Tryz.ntmps35
      go_wp2_with fail
      refine (l2Plain_any _ m nm md a len cap false true false _).mono ?_
      rintro r w2 ⟨rfl, hb2⟩
      have hcc := fun i => (hb2.cell (p := ⟨w.heap.size, i, none⟩) (by simp)).trans (alloc_cell _ _ _ _)
      have hc1 : w2.cell? ⟨w.heap.size, 1, none⟩ = some (.int .i64 m) := hcc 1
      have hc2 : w2.cell? ⟨w.heap.size, 2, none⟩ = some (.string nm) := hcc 2
      have hc3 : w2.cell? ⟨w.heap.size, 3, none⟩ = some (.string md) := hcc 3
      have HB2 := hide (((Below.refl w.heap.size w).alloc (Nat.le_refl _) _).trans (hb2.mono (by simp)))
      clear hb2 hcc
      rw [zp]
      go_wp2
      go_ret
      exact ⟨ret_bool (by rw [unhide HF]; rfl), unhide HB2⟩
    | true =>
      cases hb : nameB nm.data.toList with
      | true =>
        go_enter Tryz.func35, Tryz.ntmps35
        go_wp2_with fail
        refine (l2Plain_any _ m nm md a len cap false true false _).mono ?_
        rintro r w2 ⟨rfl, hb2⟩
        have hcc := fun i => (hb2.cell (p := ⟨w.heap.size, i, none⟩) (by simp)).trans (alloc_cell _ _ _ _)
        have hc1 : w2.cell? ⟨w.heap.size, 1, none⟩ = some (.int .i64 m) := hcc 1
        have hc2 : w2.cell? ⟨w.heap.size, 2, none⟩ = some (.string nm) := hcc 2
        have hc3 : w2.cell? ⟨w.heap.size, 3, none⟩ = some (.string md) := hcc 3
        have HB2 := hide (((Below.refl w.heap.size w).alloc (Nat.le_refl _) _).trans (hb2.mono (by simp)))
        clear hb2 hcc
        rw [zp]
        go_wp2_with fail
        refine (HN nm _).mono ?_
        rintro r w3 ⟨rfl, hb3⟩
        have HB3 := hide ((unhide HB2).trans (hb3.mono (unhide HB2).size))
        clear hb3
        rw [hb]
        go_wp2
        go_ret
        exact ⟨ret_bool (by rw [unhide HF]; rfl), unhide HB3⟩
      | false =>
        go_enter Tryz.func35, Tryz.ntmps35
        go_wp2_with fail
        refine (l2Plain_any _ m nm md a len cap false true false _).mono ?_
        rintro r w2 ⟨rfl, hb2⟩
        have hcc := fun i => (hb2.cell (p := ⟨w.heap.size, i, none⟩) (by simp)).trans (alloc_cell _ _ _ _)
        have hc1 : w2.cell? ⟨w.heap.size, 1, none⟩ = some (.int .i64 m) := hcc 1
        have hc2 : w2.cell? ⟨w.heap.size, 2, none⟩ = some (.string nm) := hcc 2
        have hc3 : w2.cell? ⟨w.heap.size, 3, none⟩ = some (.string md) := hcc 3
        have HB2 := hide (((Below.refl w.heap.size w).alloc (Nat.le_refl _) _).trans (hb2.mono (by simp)))
        clear hb2 hcc
        rw [zp]
        go_wp2_with fail
        refine (HN nm _).mono ?_
        rintro r w3 ⟨rfl, hb3⟩
        have HB3 := hide ((unhide HB2).trans (hb3.mono (unhide HB2).size))
        clear hb3
        rw [hb]
        go_wp2
        go_ret
        exact ⟨ret_bool (by rw [unhide HF]; rfl), unhide HB3⟩

set_option maxHeartbeats 1000000 in
theorem node7 (HN : NameS) (m : Int) (nm md : ByteArray) (a : Option Addr) (len cap : Nat) (w : World) (hl : len ≤ maxLen) : Node1 7 m nm md a len cap w := by
  unfold Node1
  unfold maxLen at hl
  have hn : nodeB 7 m nm md len = (((decide (len ≤ 4) && plainB m nm md false true true) && nameB nm.data.toList) && ((md.toList == []) || nameB md.data.toList)) := rfl
  rw [hn]
  by_cases h3 : 4 < len
  ·
    have HF : Hid (decide (len ≤ 4) = false) := hide (by rw [decide_eq_false_iff_not]; omega)
    go_enter Tryz.func35, Tryz.ntmps35
    go_wp2
    go_ret
    exact ⟨ret_bool (by rw [unhide HF]; rfl), (Below.refl _ _).alloc (Nat.le_refl _) _⟩
  ·
    have HF : Hid (decide (len ≤ 4) = true) := hide (by rw [decide_eq_true_eq]; omega)
    cases zp : plainB m nm md false true true with
    | false =>
      go_enter Tryz.func35, Tryz.ntmps35
      go_wp2_with fail
      refine (l2Plain_any _ m nm md a len cap false true true _).mono ?_
      rintro r w2 ⟨rfl, hb2⟩
      have hcc := fun i => (hb2.cell (p := ⟨w.heap.size, i, none⟩) (by simp)).trans (alloc_cell _ _ _ _)
      have hc1 : w2.cell? ⟨w.heap.size, 1, none⟩ = some (.int .i64 m) := hcc 1
      have hc2 : w2.cell? ⟨w.heap.size, 2, none⟩ = some (.string nm) := hcc 2
      have hc3 : w2.cell? ⟨w.heap.size, 3, none⟩ = some (.string md) := hcc 3
      have HB2 := hide (((Below.refl w.heap.size w).alloc (Nat.le_refl _) _).trans (hb2.mono (by simp)))
      clear hb2 hcc
      rw [zp]
      go_wp2
      go_ret
      exact ⟨ret_bool (by rw [unhide HF]; rfl), unhide HB2⟩
    | true =>
      cases hb : nameB nm.data.toList with
      | false =>
        go_enter Tryz.func35, Tryz.ntmps35
        go_wp2_with fail
        refine (l2Plain_any _ m nm md a len cap false true true _).mono ?_
        rintro r w2 ⟨rfl, hb2⟩
        have hcc := fun i => (hb2.cell (p := ⟨w.heap.size, i, none⟩) (by simp)).trans (alloc_cell _ _ _ _)
        have hc1 : w2.cell? ⟨w.heap.size, 1, none⟩ = some (.int .i64 m) := hcc 1
        have hc2 : w2.cell? ⟨w.heap.size, 2, none⟩ = some (.string nm) := hcc 2
        have hc3 : w2.cell? ⟨w.heap.size, 3, none⟩ = some (.string md) := hcc 3
        have HB2 := hide (((Below.refl w.heap.size w).alloc (Nat.le_refl _) _).trans (hb2.mono (by simp)))
        have HZ : Hid (w.heap.size < w2.heap.size) := hide (by have := hb2.size; rw [alloc_size] at this; omega)
        clear hb2 hcc
        rw [zp]
        go_wp2_with fail
        refine (HN nm _).mono ?_
        rintro r w3 ⟨rfl, hb3⟩
        have HB3 := hide ((unhide HB2).trans (hb3.mono (unhide HB2).size))
        clear hb3
        rw [hb]
        go_wp2
        go_ret
        exact ⟨ret_bool (by rw [unhide HF]; rfl), unhide HB3⟩
      | true =>
        cases hm : (md.toList == []) with
        | true =>
          go_enter Tryz.func35, Tryz.ntmps35
          go_wp2_with fail
          refine (l2Plain_any _ m nm md a len cap false true true _).mono ?_
          rintro r w2 ⟨rfl, hb2⟩
          have hcc := fun i => (hb2.cell (p := ⟨w.heap.size, i, none⟩) (by simp)).trans (alloc_cell _ _ _ _)
          have hc1 : w2.cell? ⟨w.heap.size, 1, none⟩ = some (.int .i64 m) := hcc 1
          have hc2 : w2.cell? ⟨w.heap.size, 2, none⟩ = some (.string nm) := hcc 2
          have hc3 : w2.cell? ⟨w.heap.size, 3, none⟩ = some (.string md) := hcc 3
          have HB2 := hide (((Below.refl w.heap.size w).alloc (Nat.le_refl _) _).trans (hb2.mono (by simp)))
          have HZ : Hid (w.heap.size < w2.heap.size) := hide (by have := hb2.size; rw [alloc_size] at this; omega)
          clear hb2 hcc
          rw [zp]
          go_wp2_with fail
          refine (HN nm _).mono ?_
          rintro r w3 ⟨rfl, hb3⟩
          have he3 : w3.cell? ⟨w.heap.size, 3, none⟩ = some (.string md) := (hb3.cell (p := ⟨w.heap.size, 3, none⟩) (unhide HZ)).trans hc3
          have HB3 := hide ((unhide HB2).trans (hb3.mono (unhide HB2).size))
          clear hb3
          rw [hb]
          go_wp2
          go_ret
          exact ⟨ret_bool (by rw [unhide HF]; rfl), unhide HB3⟩
        | false =>
          cases hx : nameB md.data.toList with
          | true =>
            go_enter Tryz.func35, Tryz.ntmps35
            go_wp2_with fail
            refine (l2Plain_any _ m nm md a len cap false true true _).mono ?_
            rintro r w2 ⟨rfl, hb2⟩
            have hcc := fun i => (hb2.cell (p := ⟨w.heap.size, i, none⟩) (by simp)).trans (alloc_cell _ _ _ _)
            have hc1 : w2.cell? ⟨w.heap.size, 1, none⟩ = some (.int .i64 m) := hcc 1
            have hc2 : w2.cell? ⟨w.heap.size, 2, none⟩ = some (.string nm) := hcc 2
            have hc3 : w2.cell? ⟨w.heap.size, 3, none⟩ = some (.string md) := hcc 3
            have HB2 := hide (((Below.refl w.heap.size w).alloc (Nat.le_refl _) _).trans (hb2.mono (by simp)))
            have HZ : Hid (w.heap.size < w2.heap.size) := hide (by have := hb2.size; rw [alloc_size] at this; omega)
            clear hb2 hcc
            rw [zp]
            go_wp2_with fail
            refine (HN nm _).mono ?_
            rintro r w3 ⟨rfl, hb3⟩
            have he3 : w3.cell? ⟨w.heap.size, 3, none⟩ = some (.string md) := (hb3.cell (p := ⟨w.heap.size, 3, none⟩) (unhide HZ)).trans hc3
            have HB3 := hide ((unhide HB2).trans (hb3.mono (unhide HB2).size))
            clear hb3
            rw [hb]
            go_wp2_with fail
            refine (HN md _).mono ?_
            rintro r w4 ⟨rfl, hb4⟩
            have HB4 := hide ((unhide HB3).trans (hb4.mono (unhide HB3).size))
            clear hb4
            rw [hx]
            go_wp2
            go_ret
            exact ⟨ret_bool (by rw [unhide HF]; rfl), unhide HB4⟩
          | false =>
            go_enter Tryz.func35, Tryz.ntmps35
            go_wp2_with fail
            refine (l2Plain_any _ m nm md a len cap false true true _).mono ?_
            rintro r w2 ⟨rfl, hb2⟩
            have hcc := fun i => (hb2.cell (p := ⟨w.heap.size, i, none⟩) (by simp)).trans (alloc_cell _ _ _ _)
            have hc1 : w2.cell? ⟨w.heap.size, 1, none⟩ = some (.int .i64 m) := hcc 1
            have hc2 : w2.cell? ⟨w.heap.size, 2, none⟩ = some (.string nm) := hcc 2
            have hc3 : w2.cell? ⟨w.heap.size, 3, none⟩ = some (.string md) := hcc 3
            have HB2 := hide (((Below.refl w.heap.size w).alloc (Nat.le_refl _) _).trans (hb2.mono (by simp)))
            have HZ : Hid (w.heap.size < w2.heap.size) := hide (by have := hb2.size; rw [alloc_size] at this; omega)
            clear hb2 hcc
            rw [zp]
            go_wp2_with fail
            refine (HN nm _).mono ?_
            rintro r w3 ⟨rfl, hb3⟩
            have he3 : w3.cell? ⟨w.heap.size, 3, none⟩ = some (.string md) := (hb3.cell (p := ⟨w.heap.size, 3, none⟩) (unhide HZ)).trans hc3
            have HB3 := hide ((unhide HB2).trans (hb3.mono (unhide HB2).size))
            clear hb3
            rw [hb]
            go_wp2_with fail
            refine (HN md _).mono ?_
            rintro r w4 ⟨rfl, hb4⟩
            have HB4 := hide ((unhide HB3).trans (hb4.mono (unhide HB3).size))
            clear hb4
            rw [hx]
            go_wp2
            go_ret
            exact ⟨ret_bool (by rw [unhide HF]; rfl), unhide HB4⟩

set_option maxHeartbeats 1000000 in
theorem node4 (m : Int) (nm md : ByteArray) (a : Option Addr) (len cap : Nat) (w : World) (_hl : len ≤ maxLen) : Node1 4 m nm md a len cap w := by
  unfold Node1
  have hn : nodeB 4 m nm md len = (plainB m nm md false true false && decide ((len : Int) = arityI (primN nm.toList))) := rfl
  rw [hn]
  cases zp : plainB m nm md false true false with
  | false =>
    go_enter Tryz.func35, Tryz.ntmps35
    go_wp2_with fail
    refine (l2Plain_any _ m nm md a len cap false true false _).mono ?_
    rintro r w2 ⟨rfl, hb2⟩
    have hcc := fun i => (hb2.cell (p := ⟨w.heap.size, i, none⟩) (by simp)).trans (alloc_cell _ _ _ _)
    have hc1 : w2.cell? ⟨w.heap.size, 1, none⟩ = some (.int .i64 m) := hcc 1
    have hc2 : w2.cell? ⟨w.heap.size, 2, none⟩ = some (.string nm) := hcc 2
    have hc3 : w2.cell? ⟨w.heap.size, 3, none⟩ = some (.string md) := hcc 3
    have HB2 := hide (((Below.refl w.heap.size w).alloc (Nat.le_refl _) _).trans (hb2.mono (by simp)))
    clear hb2 hcc
    rw [zp]
    go_wp2
    go_ret
    exact ⟨rfl, unhide HB2⟩
  | true =>
    obtain ⟨A, hA⟩ : ∃ A, arityI (primN nm.toList) = A := ⟨_, rfl⟩
    rw [hA]
    have HA := hide hA
    clear hA
    cases h3 : ((len : Int) == A) with
    | true =>
      have HF : Hid (decide ((len : Int) = A) = true) := hide (by rw [decide_eq_true_eq]; exact beq_iff_eq.1 h3)
      go_enter Tryz.func35, Tryz.ntmps35
      go_wp2_with fail
      refine (l2Plain_any _ m nm md a len cap false true false _).mono ?_
      rintro r w2 ⟨rfl, hb2⟩
      have hcc := fun i => (hb2.cell (p := ⟨w.heap.size, i, none⟩) (by simp)).trans (alloc_cell _ _ _ _)
      have hc1 : w2.cell? ⟨w.heap.size, 1, none⟩ = some (.int .i64 m) := hcc 1
      have hc2 : w2.cell? ⟨w.heap.size, 2, none⟩ = some (.string nm) := hcc 2
      have hc3 : w2.cell? ⟨w.heap.size, 3, none⟩ = some (.string md) := hcc 3
      have HB2 := hide (((Below.refl w.heap.size w).alloc (Nat.le_refl _) _).trans (hb2.mono (by simp)))
      clear hb2 hcc
      rw [zp]
      go_wp2_with fail
      refine (TreeArityS_any nm _).mono ?_
      rintro r w3 ⟨rfl, hb3⟩
      have HB3 := hide ((unhide HB2).trans (hb3.mono (unhide HB2).size))
      clear hb3
      rw [unhide HA]
      go_wp2
      go_ret
      exact ⟨ret_bool (by rw [unhide HF]; rfl), unhide HB3⟩
    | false =>
      have HF : Hid (decide ((len : Int) = A) = false) := hide (by rw [decide_eq_false_iff_not]; exact beq_eq_false_iff_ne.1 h3)
      go_enter Tryz.func35, Tryz.ntmps35
      go_wp2_with fail
      refine (l2Plain_any _ m nm md a len cap false true false _).mono ?_
      rintro r w2 ⟨rfl, hb2⟩
      have hcc := fun i => (hb2.cell (p := ⟨w.heap.size, i, none⟩) (by simp)).trans (alloc_cell _ _ _ _)
      have hc1 : w2.cell? ⟨w.heap.size, 1, none⟩ = some (.int .i64 m) := hcc 1
      have hc2 : w2.cell? ⟨w.heap.size, 2, none⟩ = some (.string nm) := hcc 2
      have hc3 : w2.cell? ⟨w.heap.size, 3, none⟩ = some (.string md) := hcc 3
      have HB2 := hide (((Below.refl w.heap.size w).alloc (Nat.le_refl _) _).trans (hb2.mono (by simp)))
      clear hb2 hcc
      rw [zp]
      go_wp2_with fail
      refine (TreeArityS_any nm _).mono ?_
      rintro r w3 ⟨rfl, hb3⟩
      have HB3 := hide ((unhide HB2).trans (hb3.mono (unhide HB2).size))
      clear hb3
      rw [unhide HA]
      go_wp2
      go_ret
      exact ⟨ret_bool (by rw [unhide HF]; rfl), unhide HB3⟩

set_option maxHeartbeats 1000000 in
theorem node0 (k m : Int) (nm md : ByteArray) (a : Option Addr) (len cap : Nat) (w : World) (n1 : (k == 1) = false) (n2 : (k == 2) = false) (n3 : (k == 3) = false) (n4 : (k == 4) = false) (n5 : (k == 5) = false) (n6 : (k == 6) = false) (n7 : (k == 7) = false) (n8 : (k == 8) = false) : Node1 k m nm md a len cap w := by
  unfold Node1
  have hn : nodeB k m nm md len = false := by
    simp only [beq_eq_false_iff_ne] at n1 n2 n3 n4 n5 n6 n7 n8
    unfold nodeB
    rw [if_neg n1, if_neg n2, if_neg n3, if_neg n4, if_neg n5, if_neg n6, if_neg n7, if_neg n8]
  rw [hn]
  clear hn
  go_enter Tryz.func35, Tryz.ntmps35
  go_wp2
  go_ret
  exact ⟨rfl, (Below.refl _ _).alloc (Nat.le_refl _) _⟩
theorem l2Node_any (HN : NameS) : NodeS := by
  intro k m nm md a len cap w hl
  by_cases h1 : k = 1
  · subst h1; exact node1 m nm md a len cap w hl
  by_cases h2 : k = 2
  · subst h2; exact node2 m nm md a len cap w hl
  by_cases h3 : k = 3
  · subst h3; exact node3 HN m nm md a len cap w hl
  by_cases h4 : k = 4
  · subst h4; exact node4 m nm md a len cap w hl
  by_cases h5 : k = 5
  · subst h5; exact node5 m nm md a len cap w hl
  by_cases h6 : k = 6
  · subst h6; exact node6 HN m nm md a len cap w hl
  by_cases h7 : k = 7
  · subst h7; exact node7 HN m nm md a len cap w hl
  by_cases h8 : k = 8
  · subst h8; exact node8 m nm md a len cap w hl
  exact node0 k m nm md a len cap w (beq_eq_false_iff_ne.2 h1) (beq_eq_false_iff_ne.2 h2) (beq_eq_false_iff_ne.2 h3) (beq_eq_false_iff_ne.2 h4) (beq_eq_false_iff_ne.2 h5) (beq_eq_false_iff_ne.2 h6) (beq_eq_false_iff_ne.2 h7) (beq_eq_false_iff_ne.2 h8)
end Go.Proofs.YtffabnmgcicpiaaGreat

namespace Go.Proofs.YtffabnmgcicpiaaGreat
open Go.RowKit Go.PlainAid

def arityL (l : List UInt8) : Int :=
  if [[110, 111, 116], [108, 101, 110], [112, 114, 105, 110, 116]].contains l then 1
  else if [[43], [45], [42], [47], [37], [60], [60, 61], [61], [97, 116], [106, 111, 105, 110], [97, 110, 100], [111, 114]].contains l then 2
  else if [[112, 117, 116]].contains l then 3 else -1
theorem arityL_eq (l : List UInt8) : arityI (primN l) = arityL l := by
  by_cases h : l ∈ prims
  · unfold prims at h
    simp only [List.mem_cons, List.not_mem_nil, or_false] at h
    rcases h with rfl | rfl | rfl | rfl | rfl | rfl | rfl | rfl | rfl | rfl | rfl | rfl | rfl | rfl | rfl | rfl <;> decide
  · have h0 : primN l = 0 := by
      unfold primN
      have : prims.findIdx? (fun p => p == l) = none := by
        rw [List.findIdx?_eq_none_iff]
        intro p hp
        rw [beq_eq_false_iff_ne]
        intro e
        exact h (e ▸ hp)
      rw [this]
    rw [h0]
    unfold prims at h
    simp only [List.mem_cons, List.not_mem_nil, or_false, not_or] at h
    unfold arityL
    simp only [List.contains_cons, List.contains_nil, Bool.or_false]
    simp only [beq_iff_eq, Bool.or_eq_true]
    rw [if_neg (by simp only [h, or_self, not_false_eq_true]), if_neg (by simp only [h, or_self, not_false_eq_true]), if_neg (by simp only [h, not_false_eq_true])]
    rfl

set_option maxHeartbeats 1000000 in
theorem TreeArityI_any (s : ByteArray) (w : World) :
    Calls Tryz.prog 113 #[.string s] w fun e w' => e = .returned (.int .i64 (arityI (primN s.toList))) ∧ w = w' := by
  rw [arityL_eq]
  go_enter Tryz.func113, Tryz.ntmps113
  go_wp2
  all_goals
    go_ret
    refine ⟨ret_int ?_, rfl⟩
    simp_all [arityL]

end Go.Proofs.YtffabnmgcicpiaaGreat
