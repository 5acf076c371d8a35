/- The walks of spec.TreeType, l2Prims, l2Prim and spec.TreeArity. No conditions. -/
import Derived.Test.YtifcfjjlgehopaaPlain
import Derived.Below
namespace Go.Proofs.Ytifcfjjlgehopaa
open Go.RowKit Go.PlainAid

/-- The word of a type. -/
def typeW (t : Int) : ByteArray := if t = 1 then ⟨#[105, 110, 116]⟩ else if t = 2 then ⟨#[98, 111, 111, 108]⟩ else if t = 3 then ⟨#[114, 111, 119]⟩ else ⟨#[]⟩
theorem ret_strT {a b : ByteArray} (h : a = b) : Ending.returned (.string a) = .returned (.string b) := by rw [h]

set_option maxHeartbeats 400000 in
theorem TreeTypeS_any (t : Int) (w : World) :
    Calls Try.prog 27 #[.int .i64 t] w fun e w' => e = .returned (.string (typeW t)) ∧ Below w.heap.size w w' := by
  by_cases h1 : t < 1
  · have HT : Hid (typeW t = ⟨#[]⟩) := hide (by unfold typeW; rw [if_neg (by omega), if_neg (by omega), if_neg (by omega)])
    go_enter Try.func27, Try.ntmps27
    go_wp2
    go_ret
    exact ⟨ret_strT (unhide HT).symm, Below.refl _ _⟩
  by_cases h3 : 3 < t
  · have HT : Hid (typeW t = ⟨#[]⟩) := hide (by unfold typeW; rw [if_neg (by omega), if_neg (by omega), if_neg (by omega)])
    go_enter Try.func27, Try.ntmps27
    go_wp2
    go_ret
    exact ⟨ret_strT (unhide HT).symm, Below.refl _ _⟩
  have hc : t = 1 ∨ t = 2 ∨ t = 3 := by omega
  rcases hc with rfl | rfl | rfl
  · clear h1 h3
    go_enter Try.func27, Try.ntmps27
    go_wp2
    go_ret
    exact ⟨rfl, (Below.refl _ _).alloc (Nat.le_refl _) _⟩
  · clear h1 h3
    go_enter Try.func27, Try.ntmps27
    go_wp2
    go_ret
    exact ⟨rfl, (Below.refl _ _).alloc (Nat.le_refl _) _⟩
  · clear h1 h3
    go_enter Try.func27, Try.ntmps27
    go_wp2
    go_ret
    exact ⟨rfl, (Below.refl _ _).alloc (Nat.le_refl _) _⟩
end Go.Proofs.Ytifcfjjlgehopaa
