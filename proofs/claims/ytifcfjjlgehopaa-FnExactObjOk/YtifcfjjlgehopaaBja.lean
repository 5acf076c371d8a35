/- Instructions that are right: the walks of spec.l8Ins, impl.objPlaceOk, impl.objInsOk. No conditions. -/
import Derived.Test.YtifcfjjlgehopaaCa
namespace Go.Proofs.Ytifcfjjlgehopaa
open Go.RowKit Go.PlainAid

def plB (a : Int) : Bool := decide (0 ≤ a) && decide (a ≤ 1000)
def insB (op a : Int) : Bool :=
  if op = 1 then decide (-100000000000000000 < a) && decide (a < 100000000000000000)
  else if op = 2 then (a == 0 || a == 1) else if op = 9 then a == 0 else (decide (1 ≤ op) && decide (op ≤ 10)) && plB a
def TI.ok (x : TI) : Bool := insB x.op x.a
theorem insB_pl {op a : Int} (h : op = 3 ∨ op = 4 ∨ op = 5 ∨ op = 6 ∨ op = 7 ∨ op = 8 ∨ op = 10) : insB op a = plB a := by
  rcases h with rfl | rfl | rfl | rfl | rfl | rfl | rfl <;> simp [insB]
theorem insB_out {op a : Int} (h : op < 1 ∨ 10 < op) : insB op a = false := by
  unfold insB
  rw [if_neg (by omega), if_neg (by omega), if_neg (by omega)]
  rcases h with h | h
  · rw [decide_eq_false (by omega)]; rfl
  · rw [decide_eq_false (p := op ≤ 10) (by omega), Bool.and_false]; rfl
theorem opcases (op : Int) : op = 1 ∨ op = 2 ∨ op = 9 ∨ (op = 3 ∨ op = 4 ∨ op = 5 ∨ op = 6 ∨ op = 7 ∨ op = 8 ∨ op = 10) ∨ (op < 1 ∨ 10 < op) := by omega

set_option maxHeartbeats 1000000 in
theorem objPlaceOk_any (a : Int) (w : World) : Calls Try.prog 58 #[.int .i64 a] w fun r w' => r = .returned (.bool (plB a)) ∧ w = w' := by
  by_cases h1 : (0 : Int) ≤ a
  · by_cases h2 : a ≤ 1000
    · have HR : Hid (plB a = true) := hide (by unfold plB; rw [decide_eq_true h1, decide_eq_true h2]; rfl)
      go_enter Try.func58, Try.ntmps58
      go_wp2
      go_ret
      exact ⟨ret_bool (unhide HR).symm, rfl⟩
    · have HR : Hid (plB a = false) := hide (by unfold plB; rw [decide_eq_false h2, Bool.and_false])
      go_enter Try.func58, Try.ntmps58
      go_wp2
      go_ret
      exact ⟨ret_bool (unhide HR).symm, rfl⟩
  · have HR : Hid (plB a = false) := hide (by unfold plB; rw [decide_eq_false h1]; rfl)
    go_enter Try.func58, Try.ntmps58
    go_wp2
    go_ret
    exact ⟨ret_bool (unhide HR).symm, rfl⟩

set_option maxHeartbeats 4000000 in
theorem l8Ins_any (v : Value) (x : TI) (lo n : Nat) (w : World) (hv : IsCi w lo n v x) : Calls Try.prog 54 #[v] w fun r w' => r = .returned (.bool x.ok) ∧ Below w.heap.size w w' := by
  obtain ⟨op, a⟩ := x
  have hv : v = .agg #[.int .i64 op, .int .i64 a] := hv
  subst hv
  obtain ⟨R, hR⟩ : ∃ R, (TI.mk op a).ok = R := ⟨_, rfl⟩
  rw [hR]
  have hR : insB op a = R := hR
  rcases opcases op with rfl | rfl | rfl | hop | hop
  · by_cases h1 : a < 100000000000000000
    · by_cases h2 : -100000000000000000 < a
      · have HR : Hid (R = true) := hide (by rw [← hR]; unfold insB; rw [if_pos rfl, decide_eq_true (by omega), decide_eq_true (by omega)]; rfl)
        clear hR
        go_enter Try.func54, Try.ntmps54
        go_wp2
        go_ret
        exact ⟨ret_bool (unhide HR).symm, (Below.refl _ _).alloc (Nat.le_refl _) _⟩
      · have HR : Hid (R = false) := hide (by rw [← hR]; unfold insB; rw [if_pos rfl, Bool.and_eq_false_iff]; simp only [decide_eq_false_iff_not]; omega)
        clear hR
        go_enter Try.func54, Try.ntmps54
        go_wp2
        go_ret
        exact ⟨ret_bool (unhide HR).symm, (Below.refl _ _).alloc (Nat.le_refl _) _⟩
    · have HR : Hid (R = false) := hide (by rw [← hR]; unfold insB; rw [if_pos rfl, Bool.and_eq_false_iff]; simp only [decide_eq_false_iff_not]; omega)
      clear hR
      go_enter Try.func54, Try.ntmps54
      go_wp2
      go_ret
      exact ⟨ret_bool (unhide HR).symm, (Below.refl _ _).alloc (Nat.le_refl _) _⟩
  · have hR : (a == 0 || a == 1) = R := by rw [← hR]; rfl
    by_cases h1 : a = 0
    · subst h1
      have HR : Hid (R = true) := hide (by rw [← hR]; rfl)
      clear hR
      go_enter Try.func54, Try.ntmps54
      go_wp2
      go_ret
      exact ⟨ret_bool (unhide HR).symm, (Below.refl _ _).alloc (Nat.le_refl _) _⟩
    · have h1' : (a == 0) = false := by simpa using h1
      by_cases h2 : a = 1
      · subst h2
        have HR : Hid (R = true) := hide (by rw [← hR]; rfl)
        clear hR
        go_enter Try.func54, Try.ntmps54
        go_wp2
        go_ret
        exact ⟨ret_bool (unhide HR).symm, (Below.refl _ _).alloc (Nat.le_refl _) _⟩
      · have h2' : (a == 1) = false := by simpa using h2
        have HR : Hid (R = false) := hide (by rw [← hR, h1', h2']; rfl)
        clear hR
        go_enter Try.func54, Try.ntmps54
        go_wp2
        go_ret
        exact ⟨ret_bool (unhide HR).symm, (Below.refl _ _).alloc (Nat.le_refl _) _⟩
  · have hR : (a == 0) = R := by rw [← hR]; rfl
    by_cases h1 : a = 0
    · subst h1
      have HR : Hid (R = true) := hide (by rw [← hR]; rfl)
      clear hR
      go_enter Try.func54, Try.ntmps54
      go_wp2
      go_ret
      exact ⟨ret_bool (unhide HR).symm, (Below.refl _ _).alloc (Nat.le_refl _) _⟩
    · have h1' : (a == 0) = false := by simpa using h1
      have HR : Hid (R = false) := hide (by rw [← hR, h1'])
      clear hR
      go_enter Try.func54, Try.ntmps54
      go_wp2
      go_ret
      exact ⟨ret_bool (unhide HR).symm, (Below.refl _ _).alloc (Nat.le_refl _) _⟩
  · rw [insB_pl hop] at hR
    by_cases h1 : (0 : Int) ≤ a
    · by_cases h2 : a ≤ 1000
      · have HR : Hid (R = true) := hide (by rw [← hR]; unfold plB; rw [decide_eq_true h1, decide_eq_true h2]; rfl)
        clear hR
        rcases hop with rfl | rfl | rfl | rfl | rfl | rfl | rfl
        all_goals
          go_enter Try.func54, Try.ntmps54
          go_wp2
          go_ret
          exact ⟨ret_bool (unhide HR).symm, (Below.refl _ _).alloc (Nat.le_refl _) _⟩
      · have HR : Hid (R = false) := hide (by rw [← hR]; unfold plB; rw [decide_eq_false h2, Bool.and_false])
        clear hR
        rcases hop with rfl | rfl | rfl | rfl | rfl | rfl | rfl
        all_goals
          go_enter Try.func54, Try.ntmps54
          go_wp2
          go_ret
          exact ⟨ret_bool (unhide HR).symm, (Below.refl _ _).alloc (Nat.le_refl _) _⟩
    · have HR : Hid (R = false) := hide (by rw [← hR]; unfold plB; rw [decide_eq_false h1]; rfl)
      clear hR
      rcases hop with rfl | rfl | rfl | rfl | rfl | rfl | rfl
      all_goals
        go_enter Try.func54, Try.ntmps54
        go_wp2
        go_ret
        exact ⟨ret_bool (unhide HR).symm, (Below.refl _ _).alloc (Nat.le_refl _) _⟩
  · have HR : Hid (R = false) := hide (by rw [← hR, insB_out hop])
    clear hR
    have n1 : (op == 1) = false := by simp only [beq_eq_false_iff_ne]; omega
    have n2 : (op == 2) = false := by simp only [beq_eq_false_iff_ne]; omega
    have n9 : (op == 9) = false := by simp only [beq_eq_false_iff_ne]; omega
    rcases hop with hop | hop
    · have g1 : ¬ (1 : Int) ≤ op := by omega
      go_enter Try.func54, Try.ntmps54
      go_wp2
      go_ret
      exact ⟨ret_bool (unhide HR).symm, (Below.refl _ _).alloc (Nat.le_refl _) _⟩
    · have g1 : (1 : Int) ≤ op := by omega
      have g2 : ¬ op ≤ 10 := by omega
      go_enter Try.func54, Try.ntmps54
      go_wp2
      go_ret
      exact ⟨ret_bool (unhide HR).symm, (Below.refl _ _).alloc (Nat.le_refl _) _⟩

set_option maxHeartbeats 4000000 in
theorem objInsOk_any (v : Value) (x : TI) (lo n : Nat) (w : World) (hv : IsCi w lo n v x) : Calls Try.prog 59 #[v] w fun r w' => r = .returned (.bool x.ok) ∧ Below w.heap.size w w' := by
  obtain ⟨op, a⟩ := x
  have hv : v = .agg #[.int .i64 op, .int .i64 a] := hv
  subst hv
  obtain ⟨R, hR⟩ : ∃ R, (TI.mk op a).ok = R := ⟨_, rfl⟩
  rw [hR]
  have hR : insB op a = R := hR
  rcases opcases op with rfl | rfl | rfl | hop | hop
  · by_cases h1 : -100000000000000000 < a
    · by_cases h2 : a < 100000000000000000
      · have HR : Hid (R = true) := hide (by rw [← hR]; unfold insB; rw [if_pos rfl, decide_eq_true (by omega), decide_eq_true (by omega)]; rfl)
        clear hR
        go_enter Try.func59, Try.ntmps59
        go_wp2
        go_ret
        exact ⟨ret_bool (unhide HR).symm, (Below.refl _ _).alloc (Nat.le_refl _) _⟩
      · have HR : Hid (R = false) := hide (by rw [← hR]; unfold insB; rw [if_pos rfl, Bool.and_eq_false_iff]; simp only [decide_eq_false_iff_not]; omega)
        clear hR
        go_enter Try.func59, Try.ntmps59
        go_wp2
        go_ret
        exact ⟨ret_bool (unhide HR).symm, (Below.refl _ _).alloc (Nat.le_refl _) _⟩
    · have HR : Hid (R = false) := hide (by rw [← hR]; unfold insB; rw [if_pos rfl, Bool.and_eq_false_iff]; simp only [decide_eq_false_iff_not]; omega)
      clear hR
      go_enter Try.func59, Try.ntmps59
      go_wp2
      go_ret
      exact ⟨ret_bool (unhide HR).symm, (Below.refl _ _).alloc (Nat.le_refl _) _⟩
  · have hR : (a == 0 || a == 1) = R := by rw [← hR]; rfl
    by_cases h1 : a = 0
    · subst h1
      have HR : Hid (R = true) := hide (by rw [← hR]; rfl)
      clear hR
      go_enter Try.func59, Try.ntmps59
      go_wp2
      go_ret
      exact ⟨ret_bool (unhide HR).symm, (Below.refl _ _).alloc (Nat.le_refl _) _⟩
    · have h1' : (a == 0) = false := by simpa using h1
      by_cases h2 : a = 1
      · subst h2
        have HR : Hid (R = true) := hide (by rw [← hR]; rfl)
        clear hR
        go_enter Try.func59, Try.ntmps59
        go_wp2
        go_ret
        exact ⟨ret_bool (unhide HR).symm, (Below.refl _ _).alloc (Nat.le_refl _) _⟩
      · have h2' : (a == 1) = false := by simpa using h2
        have HR : Hid (R = false) := hide (by rw [← hR, h1', h2']; rfl)
        clear hR
        go_enter Try.func59, Try.ntmps59
        go_wp2
        go_ret
        exact ⟨ret_bool (unhide HR).symm, (Below.refl _ _).alloc (Nat.le_refl _) _⟩
  · have hR : (a == 0) = R := by rw [← hR]; rfl
    by_cases h1 : a = 0
    · subst h1
      have HR : Hid (R = true) := hide (by rw [← hR]; rfl)
      clear hR
      go_enter Try.func59, Try.ntmps59
      go_wp2
      go_ret
      exact ⟨ret_bool (unhide HR).symm, (Below.refl _ _).alloc (Nat.le_refl _) _⟩
    · have h1' : (a == 0) = false := by simpa using h1
      have HR : Hid (R = false) := hide (by rw [← hR, h1'])
      clear hR
      go_enter Try.func59, Try.ntmps59
      go_wp2
      go_ret
      exact ⟨ret_bool (unhide HR).symm, (Below.refl _ _).alloc (Nat.le_refl _) _⟩
  · rw [insB_pl hop] at hR
    have HR := hide hR.symm
    clear hR
    rcases hop with rfl | rfl | rfl | rfl | rfl | rfl | rfl
    all_goals
      go_enter Try.func59, Try.ntmps59
      go_wp2_with fail
      refine (objPlaceOk_any _ _).mono ?_
      rintro r w2 ⟨rfl, rfl⟩
      go_wp2
      go_ret
      exact ⟨ret_bool (unhide HR).symm, (Below.refl _ _).alloc (Nat.le_refl _) _⟩
  · have HR : Hid (R = false) := hide (by rw [← hR, insB_out hop])
    clear hR
    have n1 : (op == 1) = false := by simp only [beq_eq_false_iff_ne]; omega
    have n2 : (op == 2) = false := by simp only [beq_eq_false_iff_ne]; omega
    have n9 : (op == 9) = false := by simp only [beq_eq_false_iff_ne]; omega
    have n3 : (op == 3) = false := by simp only [beq_eq_false_iff_ne]; omega
    have n4 : (op == 4) = false := by simp only [beq_eq_false_iff_ne]; omega
    have n5 : (op == 5) = false := by simp only [beq_eq_false_iff_ne]; omega
    have n6 : (op == 6) = false := by simp only [beq_eq_false_iff_ne]; omega
    have n7 : (op == 7) = false := by simp only [beq_eq_false_iff_ne]; omega
    have n8 : (op == 8) = false := by simp only [beq_eq_false_iff_ne]; omega
    have n10 : (op == 10) = false := by simp only [beq_eq_false_iff_ne]; omega
    go_enter Try.func59, Try.ntmps59
    go_wp2
    go_ret
    exact ⟨ret_bool (unhide HR).symm, (Below.refl _ _).alloc (Nat.le_refl _) _⟩

end Go.Proofs.Ytifcfjjlgehopaa
