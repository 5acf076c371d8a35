/- The walks of impl.TreeType and of the law on TreeType: it returns true and turns nothing that was there. No conditions. -/
import Derived.Test.YtambkcchnmbaoaaTa
namespace Go.Proofs.Ytambkcchnmbaoaa
open Go.RowKit Go.PlainAid

set_option maxHeartbeats 400000 in
theorem TreeTypeI_any (t : Int) (w : World) :
    Calls Try.prog 9 #[.int .i64 t] w fun e w' => e = .returned (.string (typeW t)) ∧ w = w' := by
  have hc : t = 1 ∨ t = 2 ∨ t = 3 ∨ ((t == 1) = false ∧ (t == 2) = false ∧ (t == 3) = false) := by
    simp only [beq_eq_false_iff_ne]; omega
  rcases hc with rfl | rfl | rfl | ⟨n1, n2, n3⟩
  iterate 3
    · go_enter Try.func9, Try.ntmps9
      go_wp2
      go_ret
      exact ⟨rfl, rfl⟩
  · have HT : Hid (typeW t = ⟨#[]⟩) := hide (by
      simp only [beq_eq_false_iff_ne] at n1 n2 n3
      unfold typeW; rw [if_neg (by omega), if_neg (by omega), if_neg (by omega)])
    go_enter Try.func9, Try.ntmps9
    go_wp2
    go_ret
    exact ⟨ret_strT (unhide HT).symm, rfl⟩

set_option maxHeartbeats 400000 in
theorem fnExactTreeType_walk (t : Int) (w : World) :
    Calls Try.prog 3 #[.int .i64 t] w fun e w' => e = .returned (.bool true) ∧ Below w.heap.size w w' := by
  go_enter Try.func3, Try.ntmps3
  go_wp2_with fail
  refine (TreeTypeS_any _ _).mono ?_
  rintro e w1 ⟨rfl, hb1⟩
  go_wp2_with fail
  refine (TreeTypeI_any _ _).mono ?_
  rintro e w2 ⟨rfl, rfl⟩
  have hq : ((typeW t).toList != (typeW t).toList) = false := by simp
  go_wp2
  go_ret
  exact ⟨rfl, hb1⟩
end Go.Proofs.Ytambkcchnmbaoaa
