/- The walk of the law on cutting and joining: it returns true and turns nothing that was there. No conditions. -/
import Derived.Test.YtkegbdlbaanapaaLd
import Derived.Test.YtkegbdlbaanapaaLf
import Derived.Test.YtkegbdlbaanapaaWi
import Derived.Test.YtkegbdlbaanapaaYa
import Derived.Test.YtkegbdlbaanapaaYb
import Derived.Test.YtkegbdlbaanapaaYd
namespace Go.Proofs.Ytkegbdlbaanapaa
open Go.RowKit Go.PlainAid

theorem joinW_size (ws : List ByteArray) : (⟨(joinW ws).toArray⟩ : ByteArray).size ≤ total ws := by
  have h := joinW_len ws ws.length (Nat.le_refl _)
  rw [List.take_length] at h
  show (joinW ws).toArray.size ≤ _
  simpa using h
/-- Words that are whole are cut again from what joins them, if it is not too long. -/
theorem cut_back (ws : List ByteArray) (hw : wholes ws = true) (hs : (⟨(joinW ws).toArray⟩ : ByteArray).size ≤ 4000) (hn : ws.length ≤ 1500) : cutB ⟨(joinW ws).toArray⟩ = true ∧ cutL ⟨(joinW ws).toArray⟩ = ws := by
  have h1 := words_back ws hw
  have h2 : cutB ⟨(joinW ws).toArray⟩ = true := cut_yes hs (clean_join ws hw) (by rw [h1]; exact hn)
  exact ⟨h2, by unfold cutL; rw [if_pos h2, h1]⟩
theorem cut_parts {s : ByteArray} (h : cutB s = true) : s.size ≤ 4000 ∧ cleanB s = true ∧ (wordsOf s).length ≤ 1500 ∧ cutL s = wordsOf s := by
  have e : cutL s = wordsOf s := by unfold cutL; rw [if_pos h]
  unfold cutB at h
  simp only [Bool.and_eq_true, decide_eq_true_eq] at h
  exact ⟨h.1.1, h.1.2, h.2, e⟩
theorem total_cut (s : ByteArray) : total (cutL s) ≤ 5500 := by
  cases h : cutB s with
  | false => rw [cut_no_of h]; exact Nat.zero_le _
  | true =>
    obtain ⟨h1, _, h3, h4⟩ := cut_parts h
    have := total_words s
    rw [h4]; omega
/-- The words of a text are whole, and are cut again from what joins them, or that is too long. -/
theorem cut_again (s : ByteArray) (h : cutB s = true) : wholes (cutL s) = true ∧ ((cutB ⟨(joinW (cutL s)).toArray⟩ = true ∧ cutL ⟨(joinW (cutL s)).toArray⟩ = cutL s) ∨ (cutB ⟨(joinW (cutL s)).toArray⟩ = false ∧ 4000 < (⟨(joinW (cutL s)).toArray⟩ : ByteArray).size)) := by
  obtain ⟨h1, h2, h3, h4⟩ := cut_parts h
  have hw : wholes (cutL s) = true := by rw [h4]; exact words_whole s h2
  refine ⟨hw, ?_⟩
  by_cases hs : (⟨(joinW (cutL s)).toArray⟩ : ByteArray).size ≤ 4000
  · exact .inl (cut_back _ hw hs (cutL_len s))
  · exact .inr ⟨cut_long (by omega), by omega⟩

set_option maxHeartbeats 2000000 in
theorem fnLex_walk (a0 : Option Addr) (len0 cap0 : Nat) (z0 : List Int) (a1 : Option Addr) (len1 cap1 : Nat) (z1 : List Int) (w : World) (w0 : IsRow .u8 w a0 len0 cap0 z0) (w1 : IsRow .u8 w a1 len1 cap1 z1) :
    Calls Try.prog 3 #[.slice a0 len0 cap0, .slice a1 len1 cap1] w fun e w' => e = .returned (.bool true) ∧ Below w.heap.size w w' := by
  obtain ⟨l0, m0, s0⟩ := w0.src
  obtain ⟨l1, m1, s1⟩ := w1.src
  have HM0 := hide m0
  have HM1 := hide m1
  have HS0 := hide s0
  have HS1 := hide s1
  have HL0 := hide l0
  have HL1 := hide l1
  unfold maxLen at m0 m1
  clear w0 w1 s0 s1
  by_cases h0 : 1048576 < len0
  · go_enter Try.func3, Try.ntmps3
    go_wp2
    go_ret
    exact ⟨rfl, Below.refl _ _⟩
  by_cases h1 : 1048576 < len1
  · go_enter Try.func3, Try.ntmps3
    go_wp2
    go_ret
    exact ⟨rfl, Below.refl _ _⟩
  go_enter Try.func3, Try.ntmps3
  go_wp2_with fail
  refine (DrawLexJoin_any a0 len0 cap0 _ (unhide HL0) (unhide HM0) (unhide HS0)).mono ?_
  rintro e W1 ⟨ws, aw, capw, rfl, hw1, hn, htot, hb1⟩
  have HB1 := hide hb1
  have HW1 := hide hw1
  clear hb1 hw1
  go_wp2_with fail
  refine (LexJoinI_any aw capw ws _ (unhide HW1) (by omega)).mono ?_
  rintro e W2 ⟨rfl, hb2⟩
  have HB2 := hide (bnext (unhide HB1) hb2)
  have HW2 := hide ((unhide HW1).kept hb2 hb2.size)
  clear hb2 HB1 HW1
  have hJ : (⟨(joinW ws).toArray⟩ : ByteArray).size ≤ 1300 := by have := joinW_size ws; omega
  have HBK := hide (fun h => cut_back ws h (by omega) (by omega))
  have HJS := hide (fun (w : World) (hw : Words w w.heap.size aw ws) => LexJoinS_any aw capw ws w hw (by omega))
  generalize (⟨(joinW ws).toArray⟩ : ByteArray) = J at hJ HBK HJS ⊢
  have HJM : Hid (J.size ≤ maxLen) := hide (by unfold maxLen; omega)
  go_wp2_with fail
  refine (LexCutI_any J _ (unhide HJM)).mono ?_
  rintro e W3 ⟨v3, rfl, hrow3, hb3⟩
  obtain ⟨a3, cap3, rfl, hw3⟩ := row_words hrow3 rfl
  have HB3 := hide (bnext (unhide HB2) hb3)
  have HW3 := hide ((unhide HW2).kept hb3 hb3.size)
  have HV3 := hide hw3
  clear hb3 hw3 hrow3 HB2 HW2
  go_wp2_with fail
  refine (unhide HJS _ (unhide HW3)).mono ?_
  rintro e W' ⟨rfl, rfl⟩
  have hjj : (J.toList != J.toList) = false := by simp
  go_wp2_with fail
  refine (wlWhole_any aw capw ws _ (unhide HW3) (by omega)).mono ?_
  rintro e W' ⟨rfl, rfl⟩
  cases hwh : wholes ws with
  | true =>
    obtain ⟨hy, hl⟩ := unhide HBK hwh
    have HVV := unhide HV3
    rw [hy, hl]
    rw [hl] at HVV
    have HV := hide HVV
    clear HVV HV3
    go_wp2_with fail
    refine (wlSame_any a3 aw cap3 capw ws ws _ (unhide HV) (unhide HW3) (by omega) (by omega)).mono ?_
    rintro e W4 ⟨rfl, hb4⟩
    have HB4 := hide (bnext (unhide HB3) hb4)
    clear hb4
    have hsame0 : sameB ws ws = true := by simp [sameB]
    rw [hsame0]
    clear HB3 HW3 HV
    go_wp2_with fail
    refine (DrawLexCut_any a1 len1 cap1 _ (unhide HL1) (unhide HM1) ((unhide HS1).after (unhide HB4))).mono ?_
    rintro e W5 ⟨t, rfl, ht, hb5⟩
    have HB5 := hide (bnext (unhide HB4) hb5)
    clear hb5 HB4
    have HTC := hide (total_cut t)
    have HTM : Hid (t.size ≤ maxLen) := hide (by unfold maxLen; omega)
    go_wp2_with fail
    refine (LexCutI_any t _ (unhide HTM)).mono ?_
    rintro e W6 ⟨v6, rfl, hrow6, hb6⟩
    obtain ⟨a6, cap6, rfl, hw6⟩ := row_words hrow6 rfl
    have HB6 := hide (bnext (unhide HB5) hb6)
    have HW6 := hide hw6
    clear hb6 hw6 hrow6 HB5
    go_wp2_with fail
    refine (LexCutS_any t _ (unhide HTM)).mono ?_
    rintro e W7 ⟨a7, cap7, rfl, hw7, hb7⟩
    have HB7 := hide (bnext (unhide HB6) hb7)
    have HW7 := hide ((unhide HW6).kept hb7 hb7.size)
    clear hb7 hw7 HB6 HW6
    go_wp2_with fail
    refine (LexJoinI_any a6 cap6 (cutL t) _ (unhide HW7) (by have := unhide HTC; omega)).mono ?_
    rintro e W8 ⟨rfl, hb8⟩
    have HB8 := hide (bnext (unhide HB7) hb8)
    have HW8 := hide ((unhide HW7).kept hb8 hb8.size)
    clear hb8 HB7 HW7
    have hK : (⟨(joinW (cutL t)).toArray⟩ : ByteArray).size ≤ 5500 := by have := joinW_size (cutL t); have := unhide HTC; omega
    have HAG := hide (cut_again t)
    have HKJ : Hid (∀ (w : World), Words w w.heap.size a6 (cutL t) → Calls Try.prog 11 #[.slice a6 (cutL t).length cap6] w fun e w' => e = .returned (.string ⟨(joinW (cutL t)).toArray⟩) ∧ Below w.heap.size w w') := hide (fun w hw => LexJoinI_any a6 cap6 (cutL t) w hw (by have := unhide HTC; omega))
    generalize (⟨(joinW (cutL t)).toArray⟩ : ByteArray) = K at hK HAG HKJ ⊢
    have HKM : Hid (K.size ≤ maxLen) := hide (by unfold maxLen; omega)
    go_wp2_with fail
    refine (LexCutI_any K _ (unhide HKM)).mono ?_
    rintro e W9 ⟨v9, rfl, hrow9, hb9⟩
    obtain ⟨a9, cap9, rfl, hw9⟩ := row_words hrow9 rfl
    have HB9 := hide (bnext (unhide HB8) hb9)
    have HW9 := hide ((unhide HW8).kept hb9 hb9.size)
    have HV9 := hide hw9
    clear hb9 hw9 hrow9 HB8 HW8
    cases hf : cutB t with
    | false =>
      go_wp2
      go_ret
      exact ⟨rfl, unhide HB9⟩
    | true =>
      obtain ⟨hwh, hcase⟩ := unhide HAG hf
      have hln := cutL_len t
      go_wp2_with fail
      refine (wlWhole_any a6 cap6 (cutL t) _ (unhide HW9) (by have := unhide HTC; omega)).mono ?_
      rintro e W10 ⟨rfl, rfl⟩
      rw [hwh]
      rcases hcase with ⟨hy, hl⟩ | ⟨hy, hl⟩
      · have HVV := unhide HV9
        rw [hy, hl]
        rw [hl] at HVV
        have HV := hide HVV
        clear HVV HV9
        go_wp2_with fail
        refine (wlSame_any a9 a6 cap9 cap6 (cutL t) (cutL t) _ (unhide HV) (unhide HW9) (by omega) (by omega)).mono ?_
        rintro e W11 ⟨rfl, hb11⟩
        have HB11 := hide (bnext (unhide HB9) hb11)
        clear hb11
        have hsame : sameB (cutL t) (cutL t) = true := by simp [sameB]
        rw [hsame]
        go_wp2
        go_ret
        exact ⟨rfl, unhide HB11⟩
      · rw [hy]
        go_wp2_with fail
        refine (unhide HKJ _ (unhide HW9)).mono ?_
        rintro e W11 ⟨rfl, hb11⟩
        have HB11 := hide (bnext (unhide HB9) hb11)
        clear hb11
        go_wp2
        go_ret
        exact ⟨ret_bool (decide_eq_true (by omega)), unhide HB11⟩
  | false =>
    have HB4 := HB3
    clear HB3 HW3 HV3
    go_wp2_with fail
    refine (DrawLexCut_any a1 len1 cap1 _ (unhide HL1) (unhide HM1) ((unhide HS1).after (unhide HB4))).mono ?_
    rintro e W5 ⟨t, rfl, ht, hb5⟩
    have HB5 := hide (bnext (unhide HB4) hb5)
    clear hb5 HB4
    have HTC := hide (total_cut t)
    have HTM : Hid (t.size ≤ maxLen) := hide (by unfold maxLen; omega)
    go_wp2_with fail
    refine (LexCutI_any t _ (unhide HTM)).mono ?_
    rintro e W6 ⟨v6, rfl, hrow6, hb6⟩
    obtain ⟨a6, cap6, rfl, hw6⟩ := row_words hrow6 rfl
    have HB6 := hide (bnext (unhide HB5) hb6)
    have HW6 := hide hw6
    clear hb6 hw6 hrow6 HB5
    go_wp2_with fail
    refine (LexCutS_any t _ (unhide HTM)).mono ?_
    rintro e W7 ⟨a7, cap7, rfl, hw7, hb7⟩
    have HB7 := hide (bnext (unhide HB6) hb7)
    have HW7 := hide ((unhide HW6).kept hb7 hb7.size)
    clear hb7 hw7 HB6 HW6
    go_wp2_with fail
    refine (LexJoinI_any a6 cap6 (cutL t) _ (unhide HW7) (by have := unhide HTC; omega)).mono ?_
    rintro e W8 ⟨rfl, hb8⟩
    have HB8 := hide (bnext (unhide HB7) hb8)
    have HW8 := hide ((unhide HW7).kept hb8 hb8.size)
    clear hb8 HB7 HW7
    have hK : (⟨(joinW (cutL t)).toArray⟩ : ByteArray).size ≤ 5500 := by have := joinW_size (cutL t); have := unhide HTC; omega
    have HAG := hide (cut_again t)
    have HKJ : Hid (∀ (w : World), Words w w.heap.size a6 (cutL t) → Calls Try.prog 11 #[.slice a6 (cutL t).length cap6] w fun e w' => e = .returned (.string ⟨(joinW (cutL t)).toArray⟩) ∧ Below w.heap.size w w') := hide (fun w hw => LexJoinI_any a6 cap6 (cutL t) w hw (by have := unhide HTC; omega))
    generalize (⟨(joinW (cutL t)).toArray⟩ : ByteArray) = K at hK HAG HKJ ⊢
    have HKM : Hid (K.size ≤ maxLen) := hide (by unfold maxLen; omega)
    go_wp2_with fail
    refine (LexCutI_any K _ (unhide HKM)).mono ?_
    rintro e W9 ⟨v9, rfl, hrow9, hb9⟩
    obtain ⟨a9, cap9, rfl, hw9⟩ := row_words hrow9 rfl
    have HB9 := hide (bnext (unhide HB8) hb9)
    have HW9 := hide ((unhide HW8).kept hb9 hb9.size)
    have HV9 := hide hw9
    clear hb9 hw9 hrow9 HB8 HW8
    cases hf : cutB t with
    | false =>
      go_wp2
      go_ret
      exact ⟨rfl, unhide HB9⟩
    | true =>
      obtain ⟨hwh, hcase⟩ := unhide HAG hf
      have hln := cutL_len t
      go_wp2_with fail
      refine (wlWhole_any a6 cap6 (cutL t) _ (unhide HW9) (by have := unhide HTC; omega)).mono ?_
      rintro e W10 ⟨rfl, rfl⟩
      rw [hwh]
      rcases hcase with ⟨hy, hl⟩ | ⟨hy, hl⟩
      · have HVV := unhide HV9
        rw [hy, hl]
        rw [hl] at HVV
        have HV := hide HVV
        clear HVV HV9
        go_wp2_with fail
        refine (wlSame_any a9 a6 cap9 cap6 (cutL t) (cutL t) _ (unhide HV) (unhide HW9) (by omega) (by omega)).mono ?_
        rintro e W11 ⟨rfl, hb11⟩
        have HB11 := hide (bnext (unhide HB9) hb11)
        clear hb11
        have hsame : sameB (cutL t) (cutL t) = true := by simp [sameB]
        rw [hsame]
        go_wp2
        go_ret
        exact ⟨rfl, unhide HB11⟩
      · rw [hy]
        go_wp2_with fail
        refine (unhide HKJ _ (unhide HW9)).mono ?_
        rintro e W11 ⟨rfl, hb11⟩
        have HB11 := hide (bnext (unhide HB9) hb11)
        clear hb11
        go_wp2
        go_ret
        exact ⟨ret_bool (decide_eq_true (by omega)), unhide HB11⟩
end Go.Proofs.Ytkegbdlbaanapaa
