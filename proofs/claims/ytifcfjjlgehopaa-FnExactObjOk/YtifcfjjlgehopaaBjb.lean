/- Names of functions of objects: the walk of spec.l8Name. No conditions. -/
import Derived.Test.YtifcfjjlgehopaaBja
import Derived.Test.YtifcfjjlgehopaaWb
namespace Go.Proofs.Ytifcfjjlgehopaa
open Go.RowKit Go.PlainAid

def nmB (s : ByteArray) : Bool := nameB s.data.toList || s.toList == [109, 97, 105, 110]

set_option maxHeartbeats 1000000 in
theorem l8Name_any (s : ByteArray) (w : World) : Calls Try.prog 53 #[.string s] w fun r w' => r = .returned (.bool (nmB s)) ∧ Below w.heap.size w w' := by
  obtain ⟨R, hR⟩ : ∃ R, nmB s = R := ⟨_, rfl⟩
  rw [hR]
  unfold nmB at hR
  cases hn : nameB s.data.toList with
  | true =>
    have HR : Hid (R = true) := hide (by rw [← hR, hn]; rfl)
    have HN := hide hn
    clear hR hn
    go_enter Try.func53, Try.ntmps53
    go_wp2_with fail
    refine (LexNameS_any _ _).mono ?_
    rintro r w2 ⟨rfl, hb2⟩
    rw [unhide HN]
    go_wp2
    go_ret
    exact ⟨ret_bool (unhide HR).symm, hb2⟩
  | false =>
    cases hm : (s.toList == [109, 97, 105, 110]) with
    | true =>
      have HR : Hid (R = true) := hide (by rw [← hR, hn, hm]; rfl)
      have HN := hide hn
      clear hR hn
      go_enter Try.func53, Try.ntmps53
      go_wp2_with fail
      refine (LexNameS_any _ _).mono ?_
      rintro r w2 ⟨rfl, hb2⟩
      rw [unhide HN]
      go_wp2
      go_ret
      exact ⟨ret_bool (unhide HR).symm, hb2⟩
    | false =>
      have HR : Hid (R = false) := hide (by rw [← hR, hn, hm]; rfl)
      have HN := hide hn
      clear hR hn
      go_enter Try.func53, Try.ntmps53
      go_wp2_with fail
      refine (LexNameS_any _ _).mono ?_
      rintro r w2 ⟨rfl, hb2⟩
      rw [unhide HN]
      go_wp2
      go_ret
      exact ⟨ret_bool (unhide HR).symm, hb2⟩

end Go.Proofs.Ytifcfjjlgehopaa
