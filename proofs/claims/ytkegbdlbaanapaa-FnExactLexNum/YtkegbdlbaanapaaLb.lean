/- The walk of the law on LexNum: it returns true and turns nothing that was there. No conditions. -/
import Derived.Test.YtkegbdlbaanapaaWe
namespace Go.Proofs.Ytkegbdlbaanapaa
open Go.RowKit Go.PlainAid
set_option maxHeartbeats 400000 in
theorem fnExactLexNum_walk (a0 : ByteArray) (w0 : a0.size ≤ maxLen) (w : World) :
    Calls Try.prog 9 #[.string a0] w fun e w' => e = .returned (.bool true) ∧ Below w.heap.size w w' := by
  unfold maxLen at w0
  by_cases h : 1048576 < a0.size
  · go_enter Try.func9, Try.ntmps9
    go_wp2
    go_ret
    exact ⟨rfl, Below.refl _ _⟩
  · go_enter Try.func9, Try.ntmps9
    go_wp2_with fail
    refine (LexNumS_any _ _).mono ?_
    rintro e w1 ⟨rfl, rfl⟩
    go_wp2_with fail
    refine (LexNumI_any _ _).mono ?_
    rintro e w2 ⟨rfl, hb2⟩
    go_wp2
    go_ret
    exact ⟨rfl, hb2⟩
end Go.Proofs.Ytkegbdlbaanapaa
