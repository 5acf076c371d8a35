/- The walk of the law on LexDot: it returns true and turns nothing that was there. No conditions. -/
import Derived.Test.YtkegbdlbaanapaaWg
namespace Go.Proofs.Ytkegbdlbaanapaa
open Go.RowKit Go.PlainAid
set_option maxHeartbeats 400000 in
theorem fnExactLexDot_walk (a0 : ByteArray) (w0 : a0.size ≤ maxLen) (w : World) :
    Calls Try.prog 8 #[.string a0] w fun e w' => e = .returned (.bool true) ∧ Below w.heap.size w w' := by
  have W0 := hide w0
  unfold maxLen at w0
  by_cases h : 1048576 < a0.size
  · go_enter Try.func8, Try.ntmps8
    go_wp2
    go_ret
    exact ⟨rfl, Below.refl _ _⟩
  · go_enter Try.func8, Try.ntmps8
    go_wp2_with fail
    refine (LexDotS_any _ _ (unhide W0)).mono ?_
    rintro e w1 ⟨rfl, hb1⟩
    go_wp2_with fail
    refine (LexDotI_any _ _ (unhide W0)).mono ?_
    rintro e w2 ⟨rfl, hb2⟩
    go_wp2
    go_ret
    exact ⟨rfl, hb1.trans (hb2.mono hb1.size)⟩
end Go.Proofs.Ytkegbdlbaanapaa
