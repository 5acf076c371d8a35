/- The walk of the law on LexCut: it returns true and turns nothing that was there. No conditions. -/
import Derived.Test.YtkegbdlbaanapaaMb
namespace Go.Proofs.Ytkegbdlbaanapaa
open Go.RowKit Go.PlainAid

theorem cutL_len (s : ByteArray) : (cutL s).length ≤ 1500 := by
  unfold cutL
  cases h : cutB s with
  | false => exact Nat.zero_le _
  | true =>
    simp only [if_true]
    unfold cutB at h
    simp only [Bool.and_eq_true, decide_eq_true_eq] at h
    exact h.2
theorem LexCutS_any (s : ByteArray) (w : World) (hs : s.size ≤ maxLen) : Calls Try.prog 17 #[.string s] w (CutsS s w) := by
  by_cases h : 4000 < s.size
  · exact LexCutS_long s w hs h
  · exact LexCutS_short s w h

set_option maxHeartbeats 1000000 in
theorem fnExactLexCut_walk (a0 : ByteArray) (w0 : a0.size ≤ maxLen) (w : World) :
    Calls Try.prog 5 #[.string a0] w fun e w' => e = .returned (.bool true) ∧ Below w.heap.size w w' := by
  have HS := hide (fun w => LexCutS_any a0 w w0)
  have HI := hide (fun w => LexCutI_any a0 w w0)
  unfold maxLen at w0
  by_cases h : 1048576 < a0.size
  · go_enter Try.func5, Try.ntmps5
    go_wp2
    go_ret
    exact ⟨rfl, Below.refl _ _⟩
  have HN := hide (cutL_len a0)
  go_enter Try.func5, Try.ntmps5
  go_wp2_with fail
  refine (unhide HS _).mono ?_
  rintro e W1 ⟨aw, capw, rfl, hw1, hb1⟩
  have HW1 := hide hw1
  have HB1 := hide hb1
  clear hw1 hb1
  go_wp2_with fail
  refine (unhide HI _).mono ?_
  rintro e W2 ⟨v, rfl, hrow2, hb2⟩
  obtain ⟨ag, capg, rfl, hwg⟩ := row_words hrow2 rfl
  have HWG := hide hwg
  have HB2 := hide hb2
  have HR2 := hide hrow2
  clear hwg hb2 hrow2
  go_wp2_with fail
  refine (eqStringS_any ag aw capg capw (cutL a0) (cutL a0) _ (unhide HWG) ((unhide HW1).kept (unhide HB2) (unhide HB2).size) (by have := unhide HN; omega) (by have := unhide HN; omega)).mono ?_
  rintro e W3 ⟨rfl, hb3⟩
  have hsame : sameB (cutL a0) (cutL a0) = true := by simp [sameB]
  rw [hsame]
  have HR3 := hide (row_below (unhide HR2) hb3)
  have HB3 := hide ((unhide HB2).trans (hb3.mono (unhide HB2).size))
  clear hb3 HR2 HB2
  go_wp2_with fail
  refine (markStringS_any W1.heap.size (cutL a0).length _ _ _ (unhide HR3) (unhide HB3).size (by have := unhide HN; omega)).mono ?_
  rintro e W4 ⟨rfl, hr4, hb4⟩
  have HB4 := hide ((unhide HB3).trans hb4)
  have HR4 := hide hr4
  clear hr4 hb4 HB3 HR3
  obtain ⟨n, hn⟩ : ∃ n, (cutL a0).length = n := ⟨_, rfl⟩
  have HM : Hid (∀ W : World, W.ownsRow W1.heap.size 9 1 (.slice ag (cutL a0).length capg) (cutL a0).length ((marks 1 (cutL a0).length).map Value.string) → Words W W.heap.size ag (marks 1 (cutL a0).length)) := hide (fun W hr => by
    obtain ⟨a2, cap2, e2, hw⟩ := row_words hr (marks_len _ _).symm
    simp only [Value.slice.injEq] at e2
    rw [e2.1]
    exact hw)
  have hn100 : (cutL a0).length ≤ 1500 := unhide HN
  rw [hn] at hn100 ⊢
  rw [hn] at HR4 HM
  go_wp2_with fail
  refine (heldStringS_any ag capg n _ (unhide HM _ (unhide HR4)) (by omega)).mono ?_
  rintro e W5 ⟨rfl, hb5⟩
  have HB5 := hide ((unhide HB4).trans (hb5.mono (unhide HB4).size))
  have HR5 := hide (row_below (unhide HR4) hb5)
  clear hb5 HB4 HR4
  go_wp2_with fail
  refine (unhide HI _).mono ?_
  rintro e W6 ⟨v6, rfl, hrow6, hb6⟩
  obtain ⟨ah, caph, rfl, hwh⟩ := row_words hrow6 rfl
  have HWH := hide hwh
  have HB6 := hide ((unhide HB5).trans (hb6.mono (unhide HB5).size))
  have HR6 := hide (row_below (unhide HR5) hb6)
  clear hwh hb6 hrow6 HB5 HR5
  rw [hn]
  go_wp2_with fail
  rw [← hn]
  refine (eqStringS_any ah aw caph capw (cutL a0) (cutL a0) _ (unhide HWH) ((unhide HW1).kept (unhide HB6) (unhide HB6).size) (by have := unhide HN; omega) (by have := unhide HN; omega)).mono ?_
  rintro e W7 ⟨rfl, hb7⟩
  rw [hsame, hn]
  have HR7 := hide (row_below (unhide HR6) hb7)
  have HB7 := hide ((unhide HB6).trans (hb7.mono (unhide HB6).size))
  clear hb7 HR6 HB6 HWH
  go_wp2_with fail
  refine (heldStringS_any ag capg n _ (unhide HM _ (unhide HR7)) (by omega)).mono ?_
  rintro e W8 ⟨rfl, hb8⟩
  have HB8 := hide ((unhide HB7).trans (hb8.mono (unhide HB7).size))
  clear hb8 HB7 HR7
  go_wp2
  go_ret
  exact ⟨rfl, (unhide HB1).trans ((unhide HB8).mono (unhide HB1).size)⟩
end Go.Proofs.Ytkegbdlbaanapaa
