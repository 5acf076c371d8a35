/- The walk of l2Node, kind by kind. Conditions: LexName's contract. -/
import Derived.Test.YtgmohnbjfemebaaGreatDoorTq
namespace Go.Proofs.YtgmohnbjfemebaaGreatDoor
open Go.RowKit Go.PlainAid

/-- The contract of spec.LexName. -/
def NameS : Prop := ∀ (s : ByteArray) (w : World), Calls Tryz.prog 115 #[.string s] w fun e w' => e = .returned (.bool (nameB s.data.toList)) ∧ Below w.heap.size w w'
def Node1 (k m : Int) (nm md : ByteArray) (a : Option Addr) (len cap : Nat) (w : World) : Prop :=
  Calls Tryz.prog 117 #[.agg #[.int .i64 k, .int .i64 m, .string nm, .string md, .slice a len cap]] w fun r w' => r = .returned (.bool (nodeB k m nm md len)) ∧ Below w.heap.size w w'

set_option maxHeartbeats 1000000 in
theorem node5 (m : Int) (nm md : ByteArray) (a : Option Addr) (len cap : Nat) (w : World) (_hl : len ≤ maxLen) : Node1 5 m nm md a len cap w := by
  unfold Node1
  have hn : nodeB 5 m nm md len = (decide (len = 3) && plainB m nm md false false false) := rfl
  rw [hn]
  cases h3 : ((len : Int) == 3) with
  | false =>
    have HF : Hid (decide (len = 3) = false) := hide (by rw [decide_eq_false_iff_not]; rw [beq_eq_false_iff_ne] at h3; omega)
    go_enter Tryz.func117, Tryz.ntmps117
    go_wp2
    go_ret
    exact ⟨ret_bool (by rw [unhide HF]; rfl), (Below.refl _ _).alloc (Nat.le_refl _) _⟩
  | true =>
    have HF : Hid (decide (len = 3) = true) := hide (by rw [decide_eq_true_eq]; rw [beq_iff_eq] at h3; omega)
    cases zp : plainB m nm md false false false with
    | false =>
      go_enter Tryz.func117, Tryz.ntmps117
      go_wp2_with fail
      refine (l2Plain_any _ m nm md a len cap false false false _).mono ?_
      rintro r w2 ⟨rfl, hb2⟩
      have hcc := fun i => (hb2.cell (p := ⟨w.heap.size, i, none⟩) (by simp)).trans (alloc_cell _ _ _ _)
      have hc1 : w2.cell? ⟨w.heap.size, 1, none⟩ = some (.int .i64 m) := hcc 1
      have hc2 : w2.cell? ⟨w.heap.size, 2, none⟩ = some (.string nm) := hcc 2
      have hc3 : w2.cell? ⟨w.heap.size, 3, none⟩ = some (.string md) := hcc 3
      have HB2 := hide (((Below.refl w.heap.size w).alloc (Nat.le_refl _) _).trans (hb2.mono (by simp)))
      clear hb2 hcc
      rw [zp]
      go_wp2
      go_ret
      exact ⟨ret_bool (by rw [unhide HF]; rfl), unhide HB2⟩
    | true =>
      go_enter Tryz.func117, Tryz.ntmps117
      go_wp2_with fail
      refine (l2Plain_any _ m nm md a len cap false false false _).mono ?_
      rintro r w2 ⟨rfl, hb2⟩
      have hcc := fun i => (hb2.cell (p := ⟨w.heap.size, i, none⟩) (by simp)).trans (alloc_cell _ _ _ _)
      have hc1 : w2.cell? ⟨w.heap.size, 1, none⟩ = some (.int .i64 m) := hcc 1
      have hc2 : w2.cell? ⟨w.heap.size, 2, none⟩ = some (.string nm) := hcc 2
      have hc3 : w2.cell? ⟨w.heap.size, 3, none⟩ = some (.string md) := hcc 3
      have HB2 := hide (((Below.refl w.heap.size w).alloc (Nat.le_refl _) _).trans (hb2.mono (by simp)))
      clear hb2 hcc
      rw [zp]
      go_wp2
      go_ret
      exact ⟨ret_bool (by rw [unhide HF]; rfl), unhide HB2⟩

set_option maxHeartbeats 1000000 in
theorem node8 (m : Int) (nm md : ByteArray) (a : Option Addr) (len cap : Nat) (w : World) (hl : len ≤ maxLen) : Node1 8 m nm md a len cap w := by
  unfold Node1
  unfold maxLen at hl
  have hn : nodeB 8 m nm md len = (decide (len ≤ 8) && plainB m nm md false false false) := rfl
  rw [hn]
  by_cases h3 : 8 < len
  ·
    have HF : Hid (decide (len ≤ 8) = false) := hide (by rw [decide_eq_false_iff_not]; omega)
    go_enter Tryz.func117, Tryz.ntmps117
    go_wp2
    go_ret
    exact ⟨ret_bool (by rw [unhide HF]; rfl), (Below.refl _ _).alloc (Nat.le_refl _) _⟩
  ·
    have HF : Hid (decide (len ≤ 8) = true) := hide (by rw [decide_eq_true_eq]; omega)
    cases zp : plainB m nm md false false false with
    | false =>
      go_enter Tryz.func117, Tryz.ntmps117
      go_wp2_with fail
      refine (l2Plain_any _ m nm md a len cap false false false _).mono ?_
      rintro r w2 ⟨rfl, hb2⟩
      have hcc := fun i => (hb2.cell (p := ⟨w.heap.size, i, none⟩) (by simp)).trans (alloc_cell _ _ _ _)
      have hc1 : w2.cell? ⟨w.heap.size, 1, none⟩ = some (.int .i64 m) := hcc 1
      have hc2 : w2.cell? ⟨w.heap.size, 2, none⟩ = some (.string nm) := hcc 2
      have hc3 : w2.cell? ⟨w.heap.size, 3, none⟩ = some (.string md) := hcc 3
      have HB2 := hide (((Below.refl w.heap.size w).alloc (Nat.le_refl _) _).trans (hb2.mono (by simp)))
      clear hb2 hcc
      rw [zp]
      go_wp2
      go_ret
      exact ⟨ret_bool (by rw [unhide HF]; rfl), unhide HB2⟩
    | true =>
      go_enter Tryz.func117, Tryz.ntmps117
      go_wp2_with fail
      refine (l2Plain_any _ m nm md a len cap false false false _).mono ?_
      rintro r w2 ⟨rfl, hb2⟩
      have hcc := fun i => (hb2.cell (p := ⟨w.heap.size, i, none⟩) (by simp)).trans (alloc_cell _ _ _ _)
      have hc1 : w2.cell? ⟨w.heap.size, 1, none⟩ = some (.int .i64 m) := hcc 1
      have hc2 : w2.cell? ⟨w.heap.size, 2, none⟩ = some (.string nm) := hcc 2
      have hc3 : w2.cell? ⟨w.heap.size, 3, none⟩ = some (.string md) := hcc 3
      have HB2 := hide (((Below.refl w.heap.size w).alloc (Nat.le_refl _) _).trans (hb2.mono (by simp)))
      clear hb2 hcc
      rw [zp]
      go_wp2
      go_ret
      exact ⟨ret_bool (by rw [unhide HF]; rfl), unhide HB2⟩

set_option maxHeartbeats 1000000 in
theorem node1 (m : Int) (nm md : ByteArray) (a : Option Addr) (len cap : Nat) (w : World) (_hl : len ≤ maxLen) : Node1 1 m nm md a len cap w := by
  unfold Node1
  have hn : nodeB 1 m nm md len = ((decide (len = 0) && plainB m nm md true false false) && (decide (m < 100000000000000000) && decide (-100000000000000000 < m))) := rfl
  rw [hn]
  cases h3 : ((len : Int) == 0) with
  | false =>
    have HF : Hid (decide (len = 0) = false) := hide (by rw [decide_eq_false_iff_not]; rw [beq_eq_false_iff_ne] at h3; omega)
    go_enter Tryz.func117, Tryz.ntmps117
    go_wp2
    go_ret
    exact ⟨ret_bool (by rw [unhide HF]; rfl), (Below.refl _ _).alloc (Nat.le_refl _) _⟩
  | true =>
    have HF : Hid (decide (len = 0) = true) := hide (by rw [decide_eq_true_eq]; rw [beq_iff_eq] at h3; omega)
    cases zp : plainB m nm md true false false with
    | false =>
      go_enter Tryz.func117, Tryz.ntmps117
      go_wp2_with fail
      refine (l2Plain_any _ m nm md a len cap true false false _).mono ?_
      rintro r w2 ⟨rfl, hb2⟩
      have hcc := fun i => (hb2.cell (p := ⟨w.heap.size, i, none⟩) (by simp)).trans (alloc_cell _ _ _ _)
      have hc1 : w2.cell? ⟨w.heap.size, 1, none⟩ = some (.int .i64 m) := hcc 1
      have hc2 : w2.cell? ⟨w.heap.size, 2, none⟩ = some (.string nm) := hcc 2
      have hc3 : w2.cell? ⟨w.heap.size, 3, none⟩ = some (.string md) := hcc 3
      have HB2 := hide (((Below.refl w.heap.size w).alloc (Nat.le_refl _) _).trans (hb2.mono (by simp)))
      clear hb2 hcc
      rw [zp]
      go_wp2
      go_ret
      exact ⟨ret_bool (by rw [unhide HF]; rfl), unhide HB2⟩
    | true =>
      by_cases g1 : m < 100000000000000000
      · have G1 : Hid (decide (m < 100000000000000000) = true) := hide (decide_eq_true g1)
        by_cases g2 : -100000000000000000 < m
        · have G2 : Hid (decide (-100000000000000000 < m) = true) := hide (decide_eq_true g2)
          go_enter Tryz.func117, Tryz.ntmps117
          go_wp2_with fail
          refine (l2Plain_any _ m nm md a len cap true false false _).mono ?_
          rintro r w2 ⟨rfl, hb2⟩
          have hcc := fun i => (hb2.cell (p := ⟨w.heap.size, i, none⟩) (by simp)).trans (alloc_cell _ _ _ _)
          have hc1 : w2.cell? ⟨w.heap.size, 1, none⟩ = some (.int .i64 m) := hcc 1
          have hc2 : w2.cell? ⟨w.heap.size, 2, none⟩ = some (.string nm) := hcc 2
          have hc3 : w2.cell? ⟨w.heap.size, 3, none⟩ = some (.string md) := hcc 3
          have HB2 := hide (((Below.refl w.heap.size w).alloc (Nat.le_refl _) _).trans (hb2.mono (by simp)))
          clear hb2 hcc
          rw [zp]
          go_wp2
          go_ret
          exact ⟨ret_bool (by rw [unhide HF, unhide G1, unhide G2]; simp), unhide HB2⟩
        · have G2 : Hid (decide (-100000000000000000 < m) = false) := hide (decide_eq_false g2)
          go_enter Tryz.func117, Tryz.ntmps117
          go_wp2_with fail
          refine (l2Plain_any _ m nm md a len cap true false false _).mono ?_
          rintro r w2 ⟨rfl, hb2⟩
          have hcc := fun i => (hb2.cell (p := ⟨w.heap.size, i, none⟩) (by simp)).trans (alloc_cell _ _ _ _)
          have hc1 : w2.cell? ⟨w.heap.size, 1, none⟩ = some (.int .i64 m) := hcc 1
          have hc2 : w2.cell? ⟨w.heap.size, 2, none⟩ = some (.string nm) := hcc 2
          have hc3 : w2.cell? ⟨w.heap.size, 3, none⟩ = some (.string md) := hcc 3
          have HB2 := hide (((Below.refl w.heap.size w).alloc (Nat.le_refl _) _).trans (hb2.mono (by simp)))
          clear hb2 hcc
          rw [zp]
          go_wp2
          go_ret
          exact ⟨ret_bool (by rw [unhide HF, unhide G1, unhide G2]; simp), unhide HB2⟩
      · have G1 : Hid (decide (m < 100000000000000000) = false) := hide (decide_eq_false g1)
        go_enter Tryz.func117, Tryz.ntmps117
        go_wp2_with fail
        refine (l2Plain_any _ m nm md a len cap true false false _).mono ?_
        rintro r w2 ⟨rfl, hb2⟩
        have hcc := fun i => (hb2.cell (p := ⟨w.heap.size, i, none⟩) (by simp)).trans (alloc_cell _ _ _ _)
        have hc1 : w2.cell? ⟨w.heap.size, 1, none⟩ = some (.int .i64 m) := hcc 1
        have hc2 : w2.cell? ⟨w.heap.size, 2, none⟩ = some (.string nm) := hcc 2
        have hc3 : w2.cell? ⟨w.heap.size, 3, none⟩ = some (.string md) := hcc 3
        have HB2 := hide (((Below.refl w.heap.size w).alloc (Nat.le_refl _) _).trans (hb2.mono (by simp)))
        clear hb2 hcc
        rw [zp]
        go_wp2
        go_ret
        exact ⟨ret_bool (by rw [unhide HF, unhide G1]; rfl), unhide HB2⟩

set_option maxHeartbeats 1000000 in
theorem node2 (m : Int) (nm md : ByteArray) (a : Option Addr) (len cap : Nat) (w : World) (_hl : len ≤ maxLen) : Node1 2 m nm md a len cap w := by
  unfold Node1
  have hn : nodeB 2 m nm md len = ((decide (len = 0) && plainB m nm md true false false) && (decide (m = 0) || decide (m = 1))) := rfl
  rw [hn]
  cases h3 : ((len : Int) == 0) with
  | false =>
    have HF : Hid (decide (len = 0) = false) := hide (by rw [decide_eq_false_iff_not]; rw [beq_eq_false_iff_ne] at h3; omega)
    go_enter Tryz.func117, Tryz.ntmps117
    go_wp2
    go_ret
    exact ⟨ret_bool (by rw [unhide HF]; rfl), (Below.refl _ _).alloc (Nat.le_refl _) _⟩
  | true =>
    have HF : Hid (decide (len = 0) = true) := hide (by rw [decide_eq_true_eq]; rw [beq_iff_eq] at h3; omega)
    cases zp : plainB m nm md true false false with
    | false =>
      go_enter Tryz.func117, Tryz.ntmps117
      go_wp2_with fail
      refine (l2Plain_any _ m nm md a len cap true false false _).mono ?_
      rintro r w2 ⟨rfl, hb2⟩
      have hcc := fun i => (hb2.cell (p := ⟨w.heap.size, i, none⟩) (by simp)).trans (alloc_cell _ _ _ _)
      have hc1 : w2.cell? ⟨w.heap.size, 1, none⟩ = some (.int .i64 m) := hcc 1
      have hc2 : w2.cell? ⟨w.heap.size, 2, none⟩ = some (.string nm) := hcc 2
      have hc3 : w2.cell? ⟨w.heap.size, 3, none⟩ = some (.string md) := hcc 3
      have HB2 := hide (((Below.refl w.heap.size w).alloc (Nat.le_refl _) _).trans (hb2.mono (by simp)))
      clear hb2 hcc
      rw [zp]
      go_wp2
      go_ret
      exact ⟨ret_bool (by rw [unhide HF]; rfl), unhide HB2⟩
    | true =>
      cases g1 : (m == 0) with
      | true =>
        have G1 : Hid (decide (m = 0) = true) := hide (by rw [decide_eq_true_eq]; exact beq_iff_eq.1 g1)
        go_enter Tryz.func117, Tryz.ntmps117
        go_wp2_with fail
        refine (l2Plain_any _ m nm md a len cap true false false _).mono ?_
        rintro r w2 ⟨rfl, hb2⟩
        have hcc := fun i => (hb2.cell (p := ⟨w.heap.size, i, none⟩) (by simp)).trans (alloc_cell _ _ _ _)
        have hc1 : w2.cell? ⟨w.heap.size, 1, none⟩ = some (.int .i64 m) := hcc 1
        have hc2 : w2.cell? ⟨w.heap.size, 2, none⟩ = some (.string nm) := hcc 2
        have hc3 : w2.cell? ⟨w.heap.size, 3, none⟩ = some (.string md) := hcc 3
        have HB2 := hide (((Below.refl w.heap.size w).alloc (Nat.le_refl _) _).trans (hb2.mono (by simp)))
        clear hb2 hcc
        rw [zp]
        go_wp2
        go_ret
        exact ⟨ret_bool (by rw [unhide HF, unhide G1]; rfl), unhide HB2⟩
      | false =>
        have G1 : Hid (decide (m = 0) = false) := hide (by rw [decide_eq_false_iff_not]; exact beq_eq_false_iff_ne.1 g1)
        cases g2 : (m == 1) with
        | true =>
          have G2 : Hid (decide (m = 1) = true) := hide (by rw [decide_eq_true_eq]; exact beq_iff_eq.1 g2)
          go_enter Tryz.func117, Tryz.ntmps117
          go_wp2_with fail
          refine (l2Plain_any _ m nm md a len cap true false false _).mono ?_
          rintro r w2 ⟨rfl, hb2⟩
          have hcc := fun i => (hb2.cell (p := ⟨w.heap.size, i, none⟩) (by simp)).trans (alloc_cell _ _ _ _)
          have hc1 : w2.cell? ⟨w.heap.size, 1, none⟩ = some (.int .i64 m) := hcc 1
          have hc2 : w2.cell? ⟨w.heap.size, 2, none⟩ = some (.string nm) := hcc 2
          have hc3 : w2.cell? ⟨w.heap.size, 3, none⟩ = some (.string md) := hcc 3
          have HB2 := hide (((Below.refl w.heap.size w).alloc (Nat.le_refl _) _).trans (hb2.mono (by simp)))
          clear hb2 hcc
          rw [zp]
          go_wp2
          go_ret
          exact ⟨ret_bool (by rw [unhide HF, unhide G1, unhide G2]; rfl), unhide HB2⟩
        | false =>
          have G2 : Hid (decide (m = 1) = false) := hide (by rw [decide_eq_false_iff_not]; exact beq_eq_false_iff_ne.1 g2)
          go_enter Tryz.func117, Tryz.ntmps117
          go_wp2_with fail
          refine (l2Plain_any _ m nm md a len cap true false false _).mono ?_
          rintro r w2 ⟨rfl, hb2⟩
          have hcc := fun i => (hb2.cell (p := ⟨w.heap.size, i, none⟩) (by simp)).trans (alloc_cell _ _ _ _)
          have hc1 : w2.cell? ⟨w.heap.size, 1, none⟩ = some (.int .i64 m) := hcc 1
          have hc2 : w2.cell? ⟨w.heap.size, 2, none⟩ = some (.string nm) := hcc 2
          have hc3 : w2.cell? ⟨w.heap.size, 3, none⟩ = some (.string md) := hcc 3
          have HB2 := hide (((Below.refl w.heap.size w).alloc (Nat.le_refl _) _).trans (hb2.mono (by simp)))
          clear hb2 hcc
          rw [zp]
          go_wp2
          go_ret
          exact ⟨ret_bool (by rw [unhide HF, unhide G1, unhide G2]; rfl), unhide HB2⟩

set_option maxHeartbeats 1000000 in
theorem node3 (HN : NameS) (m : Int) (nm md : ByteArray) (a : Option Addr) (len cap : Nat) (w : World) (_hl : len ≤ maxLen) : Node1 3 m nm md a len cap w := by
  unfold Node1
  have hn : nodeB 3 m nm md len = ((decide (len = 0) && plainB m nm md false true false) && nameB nm.data.toList) := rfl
  rw [hn]
  cases h3 : ((len : Int) == 0) with
  | false =>
    have HF : Hid (decide (len = 0) = false) := hide (by rw [decide_eq_false_iff_not]; rw [beq_eq_false_iff_ne] at h3; omega)
    go_enter Tryz.func117, Tryz.ntmps117
    go_wp2
    go_ret
    exact ⟨ret_bool (by rw [unhide HF]; rfl), (Below.refl _ _).alloc (Nat.le_refl _) _⟩
  | true =>
    have HF : Hid (decide (len = 0) = true) := hide (by rw [decide_eq_true_eq]; rw [beq_iff_eq] at h3; omega)
    cases zp : plainB m nm md false true false with
    | false =>
      go_enter Tryz.func117, Tryz.ntmps117
      go_wp2_with fail
      refine (l2Plain_any _ m nm md a len cap false true false _).mono ?_
      rintro r w2 ⟨rfl, hb2⟩
      have hcc := fun i => (hb2.cell (p := ⟨w.heap.size, i, none⟩) (by simp)).trans (alloc_cell _ _ _ _)
      have hc1 : w2.cell? ⟨w.heap.size, 1, none⟩ = some (.int .i64 m) := hcc 1
      have hc2 : w2.cell? ⟨w.heap.size, 2, none⟩ = some (.string nm) := hcc 2
      have hc3 : w2.cell? ⟨w.heap.size, 3, none⟩ = some (.string md) := hcc 3
      have HB2 := hide (((Below.refl w.heap.size w).alloc (Nat.le_refl _) _).trans (hb2.mono (by simp)))
      clear hb2 hcc
      rw [zp]
      go_wp2
      go_ret
      exact ⟨ret_bool (by rw [unhide HF]; rfl), unhide HB2⟩
    | true =>
      cases hb : nameB nm.data.toList with
      | true =>
        go_enter Tryz.func117, Tryz.ntmps117
        go_wp2_with fail
        refine (l2Plain_any _ m nm md a len cap false true false _).mono ?_
        rintro r w2 ⟨rfl, hb2⟩
        have hcc := fun i => (hb2.cell (p := ⟨w.heap.size, i, none⟩) (by simp)).trans (alloc_cell _ _ _ _)
        have hc1 : w2.cell? ⟨w.heap.size, 1, none⟩ = some (.int .i64 m) := hcc 1
        have hc2 : w2.cell? ⟨w.heap.size, 2, none⟩ = some (.string nm) := hcc 2
        have hc3 : w2.cell? ⟨w.heap.size, 3, none⟩ = some (.string md) := hcc 3
        have HB2 := hide (((Below.refl w.heap.size w).alloc (Nat.le_refl _) _).trans (hb2.mono (by simp)))
        clear hb2 hcc
        rw [zp]
        go_wp2_with fail
        refine (HN nm _).mono ?_
        rintro r w3 ⟨rfl, hb3⟩
        have HB3 := hide ((unhide HB2).trans (hb3.mono (unhide HB2).size))
        clear hb3
        rw [hb]
        go_wp2
        go_ret
        exact ⟨ret_bool (by rw [unhide HF]; rfl), unhide HB3⟩
      | false =>
        go_enter Tryz.func117, Tryz.ntmps117
        go_wp2_with fail
        refine (l2Plain_any _ m nm md a len cap false true false _).mono ?_
        rintro r w2 ⟨rfl, hb2⟩
        have hcc := fun i => (hb2.cell (p := ⟨w.heap.size, i, none⟩) (by simp)).trans (alloc_cell _ _ _ _)
        have hc1 : w2.cell? ⟨w.heap.size, 1, none⟩ = some (.int .i64 m) := hcc 1
        have hc2 : w2.cell? ⟨w.heap.size, 2, none⟩ = some (.string nm) := hcc 2
        have hc3 : w2.cell? ⟨w.heap.size, 3, none⟩ = some (.string md) := hcc 3
        have HB2 := hide (((Below.refl w.heap.size w).alloc (Nat.le_refl _) _).trans (hb2.mono (by simp)))
        clear hb2 hcc
        rw [zp]
        go_wp2_with fail
        refine (HN nm _).mono ?_
        rintro r w3 ⟨rfl, hb3⟩
        have HB3 := hide ((unhide HB2).trans (hb3.mono (unhide HB2).size))
        clear hb3
        rw [hb]
        go_wp2
        go_ret
        exact ⟨ret_bool (by rw [unhide HF]; rfl), unhide HB3⟩

set_option maxHeartbeats 1000000 in
theorem node6 (HN : NameS) (m : Int) (nm md : ByteArray) (a : Option Addr) (len cap : Nat) (w : World) (_hl : len ≤ maxLen) : Node1 6 m nm md a len cap w := by
  unfold Node1
  have hn : nodeB 6 m nm md len = ((decide (len = 2) && plainB m nm md false true false) && nameB nm.data.toList) := rfl
  rw [hn]
  cases h3 : ((len : Int) == 2) with
  | false =>
    have HF : Hid (decide (len = 2) = false) := hide (by rw [decide_eq_false_iff_not]; rw [beq_eq_false_iff_ne] at h3; omega)
    go_enter Tryz.func117, Tryz.ntmps117
    go_wp2
    go_ret
    exact ⟨ret_bool (by rw [unhide HF]; rfl), (Below.refl _ _).alloc (Nat.le_refl _) _⟩
  | true =>
    have HF : Hid (decide (len = 2) = true) := hide (by rw [decide_eq_true_eq]; rw [beq_iff_eq] at h3; omega)
    cases zp : plainB m nm md false true false with
    | false =>
      go_enter Tryz.func117, Tryz.ntmps117
      go_wp2_with fail
      refine (l2Plain_any _ m nm md a len cap false true false _).mono ?_
      rintro r w2 ⟨rfl, hb2⟩
      have hcc := fun i => (hb2.cell (p := ⟨w.heap.size, i, none⟩) (by simp)).trans (alloc_cell _ _ _ _)
      have hc1 : w2.cell? ⟨w.heap.size, 1, none⟩ = some (.int .i64 m) := hcc 1
      have hc2 : w2.cell? ⟨w.heap.size, 2, none⟩ = some (.string nm) := hcc 2
      have hc3 : w2.cell? ⟨w.heap.size, 3, none⟩ = some (.string md) := hcc 3
      have HB2 := hide (((Below.refl w.heap.size w).alloc (Nat.le_refl _) _).trans (hb2.mono (by simp)))
      clear hb2 hcc
      rw [zp]
      go_wp2
      go_ret
      exact ⟨ret_bool (by rw [unhide HF]; rfl), unhide HB2⟩
    | true =>
      cases hb : nameB nm.data.toList with
      | true =>
        go_enter Tryz.func117, Tryz.ntmps117
        go_wp2_with fail
        refine (l2Plain_any _ m nm md a len cap false true false _).mono ?_
        rintro r w2 ⟨rfl, hb2⟩
        have hcc := fun i => (hb2.cell (p := ⟨w.heap.size, i, none⟩) (by simp)).trans (alloc_cell _ _ _ _)
        have hc1 : w2.cell? ⟨w.heap.size, 1, none⟩ = some (.int .i64 m) := hcc 1
        have hc2 : w2.cell? ⟨w.heap.size, 2, none⟩ = some (.string nm) := hcc 2
        have hc3 : w2.cell? ⟨w.heap.size, 3, none⟩ = some (.string md) := hcc 3
        have HB2 := hide (((Below.refl w.heap.size w).alloc (Nat.le_refl _) _).trans (hb2.mono (by simp)))
        clear hb2 hcc
        rw [zp]
        go_wp2_with fail
        refine (HN nm _).mono ?_
        rintro r w3 ⟨rfl, hb3⟩
        have HB3 := hide ((unhide HB2).trans (hb3.mono (unhide HB2).size))
        clear hb3
        rw [hb]
        go_wp2
        go_ret
        exact ⟨ret_bool (by rw [unhide HF]; rfl), unhide HB3⟩
      | false =>
        go_enter Tryz.func117, Tryz.ntmps117
        go_wp2_with fail
        refine (l2Plain_any _ m nm md a len cap false true false _).mono ?_
        rintro r w2 ⟨rfl, hb2⟩
        have hcc := fun i => (hb2.cell (p := ⟨w.heap.size, i, none⟩) (by simp)).trans (alloc_cell _ _ _ _)
        have hc1 : w2.cell? ⟨w.heap.size, 1, none⟩ = some (.int .i64 m) := hcc 1
        have hc2 : w2.cell? ⟨w.heap.size, 2, none⟩ = some (.string nm) := hcc 2
        have hc3 : w2.cell? ⟨w.heap.size, 3, none⟩ = some (.string md) := hcc 3
        have HB2 := hide (((Below.refl w.heap.size w).alloc (Nat.le_refl _) _).trans (hb2.mono (by simp)))
        clear hb2 hcc
        rw [zp]
        go_wp2_with fail
        refine (HN nm _).mono ?_
        rintro r w3 ⟨rfl, hb3⟩
        have HB3 := hide ((unhide HB2).trans (hb3.mono (unhide HB2).size))
        clear hb3
        rw [hb]
        go_wp2
        go_ret
        exact ⟨ret_bool (by rw [unhide HF]; rfl), unhide HB3⟩

set_option maxHeartbeats 1000000 in
theorem node7 (HN : NameS) (m : Int) (nm md : ByteArray) (a : Option Addr) (len cap : Nat) (w : World) (hl : len ≤ maxLen) : Node1 7 m nm md a len cap w := by
  unfold Node1
  unfold maxLen at hl
  have hn : nodeB 7 m nm md len = (((decide (len ≤ 4) && plainB m nm md false true true) && nameB nm.data.toList) && ((md.toList == []) || nameB md.data.toList)) := rfl
  rw [hn]
  by_cases h3 : 4 < len
  ·
    have HF : Hid (decide (len ≤ 4) = false) := hide (by rw [decide_eq_false_iff_not]; omega)
    go_enter Tryz.func117, Tryz.ntmps117
    go_wp2
    go_ret
    exact ⟨ret_bool (by rw [unhide HF]; rfl), (Below.refl _ _).alloc (Nat.le_refl _) _⟩
  ·
    have HF : Hid (decide (len ≤ 4) = true) := hide (by rw [decide_eq_true_eq]; omega)
    cases zp : plainB m nm md false true true with
    | false =>
      go_enter Tryz.func117, Tryz.ntmps117
      go_wp2_with fail
      refine (l2Plain_any _ m nm md a len cap false true true _).mono ?_
      rintro r w2 ⟨rfl, hb2⟩
      have hcc := fun i => (hb2.cell (p := ⟨w.heap.size, i, none⟩) (by simp)).trans (alloc_cell _ _ _ _)
      have hc1 : w2.cell? ⟨w.heap.size, 1, none⟩ = some (.int .i64 m) := hcc 1
      have hc2 : w2.cell? ⟨w.heap.size, 2, none⟩ = some (.string nm) := hcc 2
      have hc3 : w2.cell? ⟨w.heap.size, 3, none⟩ = some (.string md) := hcc 3
      have HB2 := hide (((Below.refl w.heap.size w).alloc (Nat.le_refl _) _).trans (hb2.mono (by simp)))
      clear hb2 hcc
      rw [zp]
      go_wp2
      go_ret
      exact ⟨ret_bool (by rw [unhide HF]; rfl), unhide HB2⟩
    | true =>
      cases hb : nameB nm.data.toList with
      | false =>
        go_enter Tryz.func117, Tryz.ntmps117
        go_wp2_with fail
        refine (l2Plain_any _ m nm md a len cap false true true _).mono ?_
        rintro r w2 ⟨rfl, hb2⟩
        have hcc := fun i => (hb2.cell (p := ⟨w.heap.size, i, none⟩) (by simp)).trans (alloc_cell _ _ _ _)
        have hc1 : w2.cell? ⟨w.heap.size, 1, none⟩ = some (.int .i64 m) := hcc 1
        have hc2 : w2.cell? ⟨w.heap.size, 2, none⟩ = some (.string nm) := hcc 2
        have hc3 : w2.cell? ⟨w.heap.size, 3, none⟩ = some (.string md) := hcc 3
        have HB2 := hide (((Below.refl w.heap.size w).alloc (Nat.le_refl _) _).trans (hb2.mono (by simp)))
        have HZ : Hid (w.heap.size < w2.heap.size) := hide (by have := hb2.size; rw [alloc_size] at this; omega)
        clear hb2 hcc
        rw [zp]
        go_wp2_with fail
        refine (HN nm _).mono ?_
        rintro r w3 ⟨rfl, hb3⟩
        have HB3 := hide ((unhide HB2).trans (hb3.mono (unhide HB2).size))
        clear hb3
        rw [hb]
        go_wp2
        go_ret
        exact ⟨ret_bool (by rw [unhide HF]; rfl), unhide HB3⟩
      | true =>
        cases hm : (md.toList == []) with
        | true =>
          go_enter Tryz.func117, Tryz.ntmps117
          go_wp2_with fail
          refine (l2Plain_any _ m nm md a len cap false true true _).mono ?_
          rintro r w2 ⟨rfl, hb2⟩
          have hcc := fun i => (hb2.cell (p := ⟨w.heap.size, i, none⟩) (by simp)).trans (alloc_cell _ _ _ _)
          have hc1 : w2.cell? ⟨w.heap.size, 1, none⟩ = some (.int .i64 m) := hcc 1
          have hc2 : w2.cell? ⟨w.heap.size, 2, none⟩ = some (.string nm) := hcc 2
          have hc3 : w2.cell? ⟨w.heap.size, 3, none⟩ = some (.string md) := hcc 3
          have HB2 := hide (((Below.refl w.heap.size w).alloc (Nat.le_refl _) _).trans (hb2.mono (by simp)))
          have HZ : Hid (w.heap.size < w2.heap.size) := hide (by have := hb2.size; rw [alloc_size] at this; omega)
          clear hb2 hcc
          rw [zp]
          go_wp2_with fail
          refine (HN nm _).mono ?_
          rintro r w3 ⟨rfl, hb3⟩
          have he3 : w3.cell? ⟨w.heap.size, 3, none⟩ = some (.string md) := (hb3.cell (p := ⟨w.heap.size, 3, none⟩) (unhide HZ)).trans hc3
          have HB3 := hide ((unhide HB2).trans (hb3.mono (unhide HB2).size))
          clear hb3
          rw [hb]
          go_wp2
          go_ret
          exact ⟨ret_bool (by rw [unhide HF]; rfl), unhide HB3⟩
        | false =>
          cases hx : nameB md.data.toList with
          | true =>
            go_enter Tryz.func117, Tryz.ntmps117
            go_wp2_with fail
            refine (l2Plain_any _ m nm md a len cap false true true _).mono ?_
            rintro r w2 ⟨rfl, hb2⟩
            have hcc := fun i => (hb2.cell (p := ⟨w.heap.size, i, none⟩) (by simp)).trans (alloc_cell _ _ _ _)
            have hc1 : w2.cell? ⟨w.heap.size, 1, none⟩ = some (.int .i64 m) := hcc 1
            have hc2 : w2.cell? ⟨w.heap.size, 2, none⟩ = some (.string nm) := hcc 2
            have hc3 : w2.cell? ⟨w.heap.size, 3, none⟩ = some (.string md) := hcc 3
            have HB2 := hide (((Below.refl w.heap.size w).alloc (Nat.le_refl _) _).trans (hb2.mono (by simp)))
            have HZ : Hid (w.heap.size < w2.heap.size) := hide (by have := hb2.size; rw [alloc_size] at this; omega)
            clear hb2 hcc
            rw [zp]
            go_wp2_with fail
            refine (HN nm _).mono ?_
            rintro r w3 ⟨rfl, hb3⟩
            have he3 : w3.cell? ⟨w.heap.size, 3, none⟩ = some (.string md) := (hb3.cell (p := ⟨w.heap.size, 3, none⟩) (unhide HZ)).trans hc3
            have HB3 := hide ((unhide HB2).trans (hb3.mono (unhide HB2).size))
            clear hb3
            rw [hb]
            go_wp2_with fail
            refine (HN md _).mono ?_
            rintro r w4 ⟨rfl, hb4⟩
            have HB4 := hide ((unhide HB3).trans (hb4.mono (unhide HB3).size))
            clear hb4
            rw [hx]
            go_wp2
            go_ret
            exact ⟨ret_bool (by rw [unhide HF]; rfl), unhide HB4⟩
          | false =>
            go_enter Tryz.func117, Tryz.ntmps117
            go_wp2_with fail
            refine (l2Plain_any _ m nm md a len cap false true true _).mono ?_
            rintro r w2 ⟨rfl, hb2⟩
            have hcc := fun i => (hb2.cell (p := ⟨w.heap.size, i, none⟩) (by simp)).trans (alloc_cell _ _ _ _)
            have hc1 : w2.cell? ⟨w.heap.size, 1, none⟩ = some (.int .i64 m) := hcc 1
            have hc2 : w2.cell? ⟨w.heap.size, 2, none⟩ = some (.string nm) := hcc 2
            have hc3 : w2.cell? ⟨w.heap.size, 3, none⟩ = some (.string md) := hcc 3
            have HB2 := hide (((Below.refl w.heap.size w).alloc (Nat.le_refl _) _).trans (hb2.mono (by simp)))
            have HZ : Hid (w.heap.size < w2.heap.size) := hide (by have := hb2.size; rw [alloc_size] at this; omega)
            clear hb2 hcc
            rw [zp]
            go_wp2_with fail
            refine (HN nm _).mono ?_
            rintro r w3 ⟨rfl, hb3⟩
            have he3 : w3.cell? ⟨w.heap.size, 3, none⟩ = some (.string md) := (hb3.cell (p := ⟨w.heap.size, 3, none⟩) (unhide HZ)).trans hc3
            have HB3 := hide ((unhide HB2).trans (hb3.mono (unhide HB2).size))
            clear hb3
            rw [hb]
            go_wp2_with fail
            refine (HN md _).mono ?_
            rintro r w4 ⟨rfl, hb4⟩
            have HB4 := hide ((unhide HB3).trans (hb4.mono (unhide HB3).size))
            clear hb4
            rw [hx]
            go_wp2
            go_ret
            exact ⟨ret_bool (by rw [unhide HF]; rfl), unhide HB4⟩

set_option maxHeartbeats 1000000 in
theorem node4 (m : Int) (nm md : ByteArray) (a : Option Addr) (len cap : Nat) (w : World) (_hl : len ≤ maxLen) : Node1 4 m nm md a len cap w := by
  unfold Node1
  have hn : nodeB 4 m nm md len = (plainB m nm md false true false && decide ((len : Int) = arityI (primN nm.toList))) := rfl
  rw [hn]
  cases zp : plainB m nm md false true false with
  | false =>
    go_enter Tryz.func117, Tryz.ntmps117
    go_wp2_with fail
    refine (l2Plain_any _ m nm md a len cap false true false _).mono ?_
    rintro r w2 ⟨rfl, hb2⟩
    have hcc := fun i => (hb2.cell (p := ⟨w.heap.size, i, none⟩) (by simp)).trans (alloc_cell _ _ _ _)
    have hc1 : w2.cell? ⟨w.heap.size, 1, none⟩ = some (.int .i64 m) := hcc 1
    have hc2 : w2.cell? ⟨w.heap.size, 2, none⟩ = some (.string nm) := hcc 2
    have hc3 : w2.cell? ⟨w.heap.size, 3, none⟩ = some (.string md) := hcc 3
    have HB2 := hide (((Below.refl w.heap.size w).alloc (Nat.le_refl _) _).trans (hb2.mono (by simp)))
    clear hb2 hcc
    rw [zp]
    go_wp2
    go_ret
    exact ⟨rfl, unhide HB2⟩
  | true =>
    obtain ⟨A, hA⟩ : ∃ A, arityI (primN nm.toList) = A := ⟨_, rfl⟩
    rw [hA]
    have HA := hide hA
    clear hA
    cases h3 : ((len : Int) == A) with
    | true =>
      have HF : Hid (decide ((len : Int) = A) = true) := hide (by rw [decide_eq_true_eq]; exact beq_iff_eq.1 h3)
      go_enter Tryz.func117, Tryz.ntmps117
      go_wp2_with fail
      refine (l2Plain_any _ m nm md a len cap false true false _).mono ?_
      rintro r w2 ⟨rfl, hb2⟩
      have hcc := fun i => (hb2.cell (p := ⟨w.heap.size, i, none⟩) (by simp)).trans (alloc_cell _ _ _ _)
      have hc1 : w2.cell? ⟨w.heap.size, 1, none⟩ = some (.int .i64 m) := hcc 1
      have hc2 : w2.cell? ⟨w.heap.size, 2, none⟩ = some (.string nm) := hcc 2
      have hc3 : w2.cell? ⟨w.heap.size, 3, none⟩ = some (.string md) := hcc 3
      have HB2 := hide (((Below.refl w.heap.size w).alloc (Nat.le_refl _) _).trans (hb2.mono (by simp)))
      clear hb2 hcc
      rw [zp]
      go_wp2_with fail
      refine (TreeArityS_any nm _).mono ?_
      rintro r w3 ⟨rfl, hb3⟩
      have HB3 := hide ((unhide HB2).trans (hb3.mono (unhide HB2).size))
      clear hb3
      rw [unhide HA]
      go_wp2
      go_ret
      exact ⟨ret_bool (by rw [unhide HF]; rfl), unhide HB3⟩
    | false =>
      have HF : Hid (decide ((len : Int) = A) = false) := hide (by rw [decide_eq_false_iff_not]; exact beq_eq_false_iff_ne.1 h3)
      go_enter Tryz.func117, Tryz.ntmps117
      go_wp2_with fail
      refine (l2Plain_any _ m nm md a len cap false true false _).mono ?_
      rintro r w2 ⟨rfl, hb2⟩
      have hcc := fun i => (hb2.cell (p := ⟨w.heap.size, i, none⟩) (by simp)).trans (alloc_cell _ _ _ _)
      have hc1 : w2.cell? ⟨w.heap.size, 1, none⟩ = some (.int .i64 m) := hcc 1
      have hc2 : w2.cell? ⟨w.heap.size, 2, none⟩ = some (.string nm) := hcc 2
      have hc3 : w2.cell? ⟨w.heap.size, 3, none⟩ = some (.string md) := hcc 3
      have HB2 := hide (((Below.refl w.heap.size w).alloc (Nat.le_refl _) _).trans (hb2.mono (by simp)))
      clear hb2 hcc
      rw [zp]
      go_wp2_with fail
      refine (TreeArityS_any nm _).mono ?_
      rintro r w3 ⟨rfl, hb3⟩
      have HB3 := hide ((unhide HB2).trans (hb3.mono (unhide HB2).size))
      clear hb3
      rw [unhide HA]
      go_wp2
      go_ret
      exact ⟨ret_bool (by rw [unhide HF]; rfl), unhide HB3⟩

set_option maxHeartbeats 1000000 in
theorem node0 (k m : Int) (nm md : ByteArray) (a : Option Addr) (len cap : Nat) (w : World) (n1 : (k == 1) = false) (n2 : (k == 2) = false) (n3 : (k == 3) = false) (n4 : (k == 4) = false) (n5 : (k == 5) = false) (n6 : (k == 6) = false) (n7 : (k == 7) = false) (n8 : (k == 8) = false) : Node1 k m nm md a len cap w := by
  unfold Node1
  have hn : nodeB k m nm md len = false := by
    simp only [beq_eq_false_iff_ne] at n1 n2 n3 n4 n5 n6 n7 n8
    unfold nodeB
    rw [if_neg n1, if_neg n2, if_neg n3, if_neg n4, if_neg n5, if_neg n6, if_neg n7, if_neg n8]
  rw [hn]
  clear hn
  go_enter Tryz.func117, Tryz.ntmps117
  go_wp2
  go_ret
  exact ⟨rfl, (Below.refl _ _).alloc (Nat.le_refl _) _⟩
theorem l2Node_any (HN : NameS) : NodeS := by
  intro k m nm md a len cap w hl
  by_cases h1 : k = 1
  · subst h1; exact node1 m nm md a len cap w hl
  by_cases h2 : k = 2
  · subst h2; exact node2 m nm md a len cap w hl
  by_cases h3 : k = 3
  · subst h3; exact node3 HN m nm md a len cap w hl
  by_cases h4 : k = 4
  · subst h4; exact node4 m nm md a len cap w hl
  by_cases h5 : k = 5
  · subst h5; exact node5 m nm md a len cap w hl
  by_cases h6 : k = 6
  · subst h6; exact node6 HN m nm md a len cap w hl
  by_cases h7 : k = 7
  · subst h7; exact node7 HN m nm md a len cap w hl
  by_cases h8 : k = 8
  · subst h8; exact node8 m nm md a len cap w hl
  exact node0 k m nm md a len cap w (beq_eq_false_iff_ne.2 h1) (beq_eq_false_iff_ne.2 h2) (beq_eq_false_iff_ne.2 h3) (beq_eq_false_iff_ne.2 h4) (beq_eq_false_iff_ne.2 h5) (beq_eq_false_iff_ne.2 h6) (beq_eq_false_iff_ne.2 h7) (beq_eq_false_iff_ne.2 h8)
end Go.Proofs.YtgmohnbjfemebaaGreatDoor
