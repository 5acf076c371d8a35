/- The walks of szTreeArg, eqTreeArg, toTreeArg. No conditions. -/
import Derived.Test.YtgmohnbjfemebaaGreatDoorTi
namespace Go.Proofs.YtgmohnbjfemebaaGreatDoor
open Go.RowKit Go.PlainAid

set_option maxHeartbeats 400000 in
theorem szTreeArg_any (lo : Nat) : SzArg lo := by
  intro v e w left hE h0 h1
  obtain ⟨nm, ty⟩ := e
  obtain ⟨rfl, hs⟩ := hE
  have hs' : nm.size ≤ maxLen := hs
  clear hs
  unfold maxLen at hs'
  show Calls Tryz.prog 49 #[.agg #[.string nm, .int .i64 ty], .int .i64 left] w fun r w' => r = .returned (.int .i64 (leftI left nm.size)) ∧ Below w.heap.size w w'
  by_cases g1 : left < (nm.size : Int)
  · have HF := hide (left_no g1)
    go_enter Tryz.func49, Tryz.ntmps49
    go_wp2
    go_ret
    exact ⟨ret_int (unhide HF).symm, (Below.refl _ _).alloc (Nat.le_refl _) _⟩
  · have HF := hide (left_yes (show (nm.size : Int) ≤ left by omega))
    go_enter Tryz.func49, Tryz.ntmps49
    go_wp2
    go_ret
    exact ⟨ret_int (unhide HF).symm, (Below.refl _ _).alloc (Nat.le_refl _) _⟩

set_option maxHeartbeats 400000 in
theorem eqTreeArg_any (lo lo' : Nat) : EqArg lo lo' := by
  intro v v' e w hE hE'
  obtain ⟨nm, ty⟩ := e
  obtain ⟨rfl, _⟩ := hE
  obtain ⟨rfl, _⟩ := hE'
  have q1 : (ty != ty) = false := by simp
  have q2 : (nm.toList != nm.toList) = false := by simp
  show Calls Tryz.prog 59 #[.agg #[.string nm, .int .i64 ty], .agg #[.string nm, .int .i64 ty]] w fun r w' => r = .returned (.bool true) ∧ Below w.heap.size w w'
  go_enter Tryz.func59, Tryz.ntmps59
  go_wp2
  go_ret
  exact ⟨rfl, ((Below.refl _ w).alloc (Nat.le_refl _) _).alloc (by simp) _⟩

set_option maxHeartbeats 400000 in
theorem toTreeArg_any (lo : Nat) : ToArg lo := by
  intro v e w hE _
  obtain ⟨nm, ty⟩ := e
  obtain ⟨rfl, hs⟩ := hE
  have HS := hide hs
  clear hs
  show Calls Tryz.prog 54 #[.agg #[.string nm, .int .i64 ty]] w fun r w' => ∃ c0 c1 : Value, r = .returned (.agg #[c0, c1]) ∧ IsArg w' w.heap.size w'.heap.size (.agg #[c0, c1]) ⟨nm, ty⟩ ∧ Below w.heap.size w w'
  go_enter Tryz.func54, Tryz.ntmps54
  go_wp2
  refine bodyPost_ret (v := .agg #[.string nm, .int .i64 ty]) (by simp [results, Tryz.results54, go_sem]) rfl ?_
  exact ⟨_, _, rfl, ⟨rfl, unhide HS⟩, (((Below.refl _ w).alloc (Nat.le_refl _) _).alloc (by simp) _).alloc (by simp; omega) _⟩
end Go.Proofs.YtgmohnbjfemebaaGreatDoor
