/- The walks of impl.TreeArity and of the law on TreeArity: it returns true and turns nothing that was there. No conditions. -/
import Derived.Test.YtgmohnbjfemebaaGreatDoorTo
namespace Go.Proofs.YtgmohnbjfemebaaGreatDoor
open Go.RowKit Go.PlainAid

def arityL (l : List UInt8) : Int :=
  if [[110, 111, 116], [108, 101, 110], [112, 114, 105, 110, 116]].contains l then 1
  else if [[43], [45], [42], [47], [37], [60], [60, 61], [61], [97, 116], [106, 111, 105, 110], [97, 110, 100], [111, 114]].contains l then 2
  else if [[112, 117, 116]].contains l then 3 else -1
theorem arityL_eq (l : List UInt8) : arityI (primN l) = arityL l := by
  by_cases h : l ∈ prims
  · unfold prims at h
    simp only [List.mem_cons, List.not_mem_nil, or_false] at h
    rcases h with rfl | rfl | rfl | rfl | rfl | rfl | rfl | rfl | rfl | rfl | rfl | rfl | rfl | rfl | rfl | rfl <;> decide
  · have h0 : primN l = 0 := by
      unfold primN
      have : prims.findIdx? (fun p => p == l) = none := by
        rw [List.findIdx?_eq_none_iff]
        intro p hp
        rw [beq_eq_false_iff_ne]
        intro e
        exact h (e ▸ hp)
      rw [this]
    rw [h0]
    unfold prims at h
    simp only [List.mem_cons, List.not_mem_nil, or_false, not_or] at h
    unfold arityL
    simp only [List.contains_cons, List.contains_nil, Bool.or_false]
    simp only [beq_iff_eq, Bool.or_eq_true]
    rw [if_neg (by simp only [h, or_self, not_false_eq_true]), if_neg (by simp only [h, or_self, not_false_eq_true]), if_neg (by simp only [h, not_false_eq_true])]
    rfl

set_option maxHeartbeats 1000000 in
theorem TreeArityI_any (s : ByteArray) (w : World) :
    Calls Tryz.prog 178 #[.string s] w fun e w' => e = .returned (.int .i64 (arityI (primN s.toList))) ∧ w = w' := by
  rw [arityL_eq]
  go_enter Tryz.func178, Tryz.ntmps178
  go_wp2
  all_goals
    go_ret
    refine ⟨ret_int ?_, rfl⟩
    simp_all [arityL]

end Go.Proofs.YtgmohnbjfemebaaGreatDoor
