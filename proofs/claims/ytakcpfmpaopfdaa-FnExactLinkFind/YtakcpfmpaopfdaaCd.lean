/- The walks of eqCodeIns, toCodeIns, szCodeRef, eqCodeRef, toCodeRef. No conditions. -/
import Derived.Test.YtakcpfmpaopfdaaCc
namespace Go.Proofs.Ytakcpfmpaopfdaa
open Go.RowKit Go.PlainAid

set_option maxHeartbeats 400000 in
theorem szCodeRef_any (lo : Nat) : SzCr lo := by
  intro v e w left hE h0 h1
  obtain ⟨md, nm⟩ := e
  obtain ⟨rfl, hs1, hs2⟩ := hE
  dsimp only at hs1 hs2
  unfold maxLen at hs1 hs2
  show Calls Try.prog 28 #[.agg #[.string md, .string nm], .int .i64 left] w fun r w' => r = .returned (.int .i64 (leftI left (md.size + nm.size))) ∧ Below w.heap.size w w'
  by_cases g1 : left < (md.size : Int)
  · have HF := hide (left_no (left := left) (n := md.size + nm.size) (by omega))
    go_enter Try.func28, Try.ntmps28
    go_wp2
    go_ret
    exact ⟨ret_int (unhide HF).symm, (Below.refl _ _).alloc (Nat.le_refl _) _⟩
  obtain ⟨L, hL⟩ := Int.eq_ofNat_of_zero_le (show 0 ≤ left - md.size by omega)
  have HL := hide hL
  have hL2 : L ≤ 1048576 := by omega
  by_cases g2 : (L : Int) < (nm.size : Int)
  · have HF := hide (left_no (left := left) (n := md.size + nm.size) (by omega))
    go_enter Try.func28, Try.ntmps28
    go_wp2
    go_ret
    exact ⟨ret_int (unhide HF).symm, (Below.refl _ _).alloc (Nat.le_refl _) _⟩
  · have HF : Hid (leftI left (md.size + nm.size) = (L : Int) - nm.size) := hide (by rw [left_yes (by omega)]; omega)
    go_enter Try.func28, Try.ntmps28
    go_wp2
    go_ret
    exact ⟨ret_int (unhide HF).symm, (Below.refl _ _).alloc (Nat.le_refl _) _⟩

set_option maxHeartbeats 400000 in
theorem eqCodeIns_any (lo lo' : Nat) : EqCi lo lo' := by
  intro v v' e w hE hE'
  obtain ⟨nm, ty⟩ := e
  have hE2 : v = _ := hE
  have hE3 : v' = _ := hE'
  subst hE2 hE3
  clear hE hE'
  have q1 : (ty != ty) = false := by simp
  have q2 : (nm != nm) = false := by simp
  show Calls Try.prog 42 #[.agg #[.int .i64 nm, .int .i64 ty], .agg #[.int .i64 nm, .int .i64 ty]] w fun r w' => r = .returned (.bool true) ∧ Below w.heap.size w w'
  go_enter Try.func42, Try.ntmps42
  go_wp2
  go_ret
  exact ⟨rfl, ((Below.refl _ w).alloc (Nat.le_refl _) _).alloc (by simp) _⟩

set_option maxHeartbeats 400000 in
theorem toCodeIns_any (lo : Nat) : ToCi lo := by
  intro v e w hE _
  obtain ⟨nm, ty⟩ := e
  have hE2 : v = _ := hE
  subst hE2
  clear hE
  show Calls Try.prog 41 #[.agg #[.int .i64 nm, .int .i64 ty]] w fun r w' => ∃ c0 c1 : Value, r = .returned (.agg #[c0, c1]) ∧ IsCi w' w.heap.size w'.heap.size (.agg #[c0, c1]) ⟨nm, ty⟩ ∧ Below w.heap.size w w'
  go_enter Try.func41, Try.ntmps41
  go_wp2
  refine bodyPost_ret (v := .agg #[.int .i64 nm, .int .i64 ty]) (by simp [results, Try.results41, go_sem]) rfl ?_
  exact ⟨_, _, rfl, rfl, (((Below.refl _ w).alloc (Nat.le_refl _) _).alloc (by simp) _).alloc (by simp; omega) _⟩
set_option maxHeartbeats 400000 in
theorem eqCodeRef_any (lo lo' : Nat) : EqCr lo lo' := by
  intro v v' e w hE hE'
  obtain ⟨nm, ty⟩ := e
  obtain ⟨rfl, _⟩ := hE
  obtain ⟨rfl, _⟩ := hE'
  have q1 : (ty.toList != ty.toList) = false := by simp
  have q2 : (nm.toList != nm.toList) = false := by simp
  show Calls Try.prog 33 #[.agg #[.string nm, .string ty], .agg #[.string nm, .string ty]] w fun r w' => r = .returned (.bool true) ∧ Below w.heap.size w w'
  go_enter Try.func33, Try.ntmps33
  go_wp2
  go_ret
  exact ⟨rfl, ((Below.refl _ w).alloc (Nat.le_refl _) _).alloc (by simp) _⟩

set_option maxHeartbeats 400000 in
theorem toCodeRef_any (lo : Nat) : ToCr lo := by
  intro v e w hE _
  obtain ⟨nm, ty⟩ := e
  obtain ⟨rfl, hs⟩ := hE
  have HS := hide hs
  clear hs
  show Calls Try.prog 30 #[.agg #[.string nm, .string ty]] w fun r w' => ∃ c0 c1 : Value, r = .returned (.agg #[c0, c1]) ∧ IsCr w' w.heap.size w'.heap.size (.agg #[c0, c1]) ⟨nm, ty⟩ ∧ Below w.heap.size w w'
  go_enter Try.func30, Try.ntmps30
  go_wp2
  refine bodyPost_ret (v := .agg #[.string nm, .string ty]) (by simp [results, Try.results30, go_sem]) rfl ?_
  exact ⟨_, _, rfl, ⟨rfl, unhide HS⟩, (((Below.refl _ w).alloc (Nat.le_refl _) _).alloc (by simp) _).alloc (by simp; omega) _⟩
end Go.Proofs.Ytakcpfmpaopfdaa
