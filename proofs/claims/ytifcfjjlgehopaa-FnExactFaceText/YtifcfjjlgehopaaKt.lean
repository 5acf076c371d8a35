/- The walk of impl.TreeType. No conditions. -/
import Derived.Test.YtifcfjjlgehopaaTa
namespace Go.Proofs.Ytifcfjjlgehopaa
open Go.RowKit Go.PlainAid

set_option maxHeartbeats 400000 in
theorem TreeTypeI_any (t : Int) (w : World) :
    Calls Try.prog 30 #[.int .i64 t] w fun e w' => e = .returned (.string (typeW t)) ∧ w = w' := by
  have hc : t = 1 ∨ t = 2 ∨ t = 3 ∨ ((t == 1) = false ∧ (t == 2) = false ∧ (t == 3) = false) := by
    simp only [beq_eq_false_iff_ne]; omega
  rcases hc with rfl | rfl | rfl | ⟨n1, n2, n3⟩
  iterate 3
    · go_enter Try.func30, Try.ntmps30
      go_wp2
      go_ret
      exact ⟨rfl, rfl⟩
  · have HT : Hid (typeW t = ⟨#[]⟩) := hide (by
      simp only [beq_eq_false_iff_ne] at n1 n2 n3
      unfold typeW; rw [if_neg (by omega), if_neg (by omega), if_neg (by omega)])
    go_enter Try.func30, Try.ntmps30
    go_wp2
    go_ret
    exact ⟨ret_strT (unhide HT).symm, rfl⟩

end Go.Proofs.Ytifcfjjlgehopaa
