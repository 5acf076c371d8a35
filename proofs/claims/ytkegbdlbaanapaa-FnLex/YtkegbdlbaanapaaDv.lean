/- A number that is read is written just as it was read; a word of two names with a point between is told apart. Plain. And the walk of DrawLexNum. Conditions: the slice that was handed in can be read. -/
import Derived.Test.YtkegbdlbaanapaaDu
import Derived.Test.YtkegbdlbaanapaaWe
import Derived.Test.YtkegbdlbaanapaaWg
namespace Go.Proofs.Ytkegbdlbaanapaa
open Go.RowKit Go.PlainAid

theorem head_snoc (l : List UInt8) (c : UInt8) (h : l ≠ []) : headZero (l ++ [c]) = headZero l := by
  cases l with
  | nil => exact absurd rfl h
  | cons a t => rfl
theorem numZ_one : ∀ (n : Nat) (l : List UInt8), l.length = n → l ≠ [] → l.all digit = true → headZero l = false → 1 ≤ numZ l := by
  intro n
  induction n with
  | zero => intro l hl hne; exact absurd (List.length_eq_zero_iff.1 hl) hne
  | succ n ih =>
    intro l hl hne ha hz
    rcases List.eq_nil_or_concat l with rfl | ⟨t, c, rfl⟩
    · exact absurd rfl hne
    · rw [List.concat_eq_append] at *
      rw [numZ_snoc]
      rw [List.all_append, Bool.and_eq_true] at ha
      have hc := digit_lo (c := c) (by simpa using ha.2)
      by_cases ht : t = []
      · subst ht
        have : c ≠ 48 := by
          intro e; subst e; simp [headZero] at hz
        have : c.toNat ≠ 48 := fun e => this (UInt8.toNat_inj.1 e)
        simp [numZ]; omega
      · have := ih t (by simpa using hl) ht ha.1 (by rw [← head_snoc t c ht]; exact hz)
        omega
theorem dig_of {c : UInt8} (h : 48 ≤ c.toNat ∧ c.toNat ≤ 57) : dig (c.toNat - 48) = c := by
  apply UInt8.toNat_inj.1
  rw [dig_toNat _ (by omega)]
  omega
theorem decF_num : ∀ (f : Nat) (l : List UInt8) (out : List UInt8), l.length ≤ f → l ≠ [] → l.all digit = true → (¬ 1 < l.length ∨ headZero l = false) → decF f (numZ l).toNat out = l ++ out := by
  intro f
  induction f with
  | zero => intro l out hl hne; exact absurd (List.length_eq_zero_iff.1 (by omega)) hne
  | succ f ih =>
    intro l out hl hne ha hz
    rcases List.eq_nil_or_concat l with rfl | ⟨t, c, rfl⟩
    · exact absurd rfl hne
    · rw [List.concat_eq_append] at *
      rw [numZ_snoc]
      rw [List.all_append, Bool.and_eq_true] at ha
      have hc := digit_lo (c := c) (by simpa using ha.2)
      by_cases ht : t = []
      · subst ht
        have e : (numZ [] * 10 + ((c.toNat : Int) - 48)).toNat = c.toNat - 48 := by simp [numZ]; omega
        rw [e, decF_end (by omega), dig_of hc]
        rfl
      · have hlen : 1 < (t ++ [c]).length := by
          have := List.length_pos_iff.2 ht
          simp; omega
        have hz' : headZero t = false := by
          rcases hz with h | h
          · exact absurd hlen h
          · rw [← head_snoc t c ht]; exact h
        have h1 := numZ_one t.length t rfl ht ha.1 hz'
        have e1 : (numZ t * 10 + ((c.toNat : Int) - 48)).toNat / 10 = (numZ t).toNat := by omega
        have e2 : (numZ t * 10 + ((c.toNat : Int) - 48)).toNat % 10 = c.toNat - 48 := by omega
        rw [decF_go (by omega), e1, e2, dig_of hc, ih t (c :: out) (by simp at hl; omega) ht ha.1 (.inr hz')]
        simp
theorem decB_canon {l : List UInt8} (h : decB l = true) : ¬ 1 < l.length ∨ headZero l = false := by
  cases hz : headZero l with
  | false => exact .inr rfl
  | true =>
    left
    intro h1
    rw [decB_zero h1 hz] at h
    cases h
theorem dec_num {d : ByteArray} (h : decB d.data.toList = true) : dec (numZ d.data.toList).toNat = d := by
  obtain ⟨h1, h2, h3⟩ := decB_len h
  unfold dec
  rw [decF_num 20 d.data.toList [] (by omega) (by intro e; rw [e] at h1; simp at h1) h3 (decB_canon h), List.append_nil]
theorem numZ_nonneg {d : ByteArray} (h : decB d.data.toList = true) : 0 ≤ numZ d.data.toList ∧ numZ d.data.toList < 100000000000000000 := by
  obtain ⟨h1, h2, h3⟩ := decB_len h
  have := numZ_small d h3 (by rw [size_len]; exact h2) d.size (Nat.le_refl _)
  rw [take_all d d.size (by omega)] at this
  exact this
/-- A number is read just from how it is written. -/
theorem num_back (s : ByteArray) (h : numB s = true) : decI (numV s) = s := by
  unfold numB at h
  unfold numV valN
  rw [if_pos h]
  have hd : decB (digs s).data.toList = true := by
    unfold okN at h
    rw [Bool.and_eq_true] at h
    exact h.1
  have hr := numZ_nonneg hd
  have hn := dec_num hd
  cases hneg : negB s with
  | false =>
    have hds : digs s = s := by unfold digs; rw [hneg]; rfl
    rw [hds] at hr hn ⊢
    simp only [Bool.false_eq_true, if_false]
    unfold decI
    rw [if_neg (by omega)]
    exact hn
  | true =>
    have hds : digs s = s.extract 1 s.size := by unfold digs; rw [hneg]; rfl
    simp only [if_true]
    have hne : headZero (digs s).data.toList = false := by
      cases hz : headZero (digs s).data.toList with
      | false => rfl
      | true => rw [hneg, (okN_of_zero hz).1] at h; cases h
    have h1 := numZ_one _ _ rfl (by intro e; rw [e] at hd; simp [decB] at hd) (decB_len hd).2.2 hne
    unfold decI
    rw [if_pos (by omega), Int.natAbs_neg]
    have e : (numZ (digs s).data.toList).natAbs = (numZ (digs s).data.toList).toNat := by omega
    rw [e, hn, hds]
    obtain ⟨h0, h45⟩ := negB_yes hneg
    obtain ⟨⟨l⟩⟩ := s
    cases l with
    | nil => simp [ByteArray.size] at h0
    | cons a t =>
      have ha : a = 45 := h45
      subst ha
      rw [Lib.extract_eq]
      have := ByteArray.mk_append_mk [45] t
      simpa [ByteArray.size] using this
theorem numV_range (s : ByteArray) : -100000000000000000 < numV s ∧ numV s < 100000000000000000 := by
  unfold numV valN
  cases h : okN (negB s) (digs s).data.toList with
  | false => simp
  | true =>
    have hd : decB (digs s).data.toList = true := by
      unfold okN at h
      rw [Bool.and_eq_true] at h
      exact h.1
    have hr := numZ_nonneg hd
    cases negB s <;> simp <;> omega

/-! Two words with a point between. -/
theorem mem_all {l : List UInt8} (h : (46 : UInt8) ∈ l) : nameB l = false := by
  apply nameB_bad
  rw [List.all_eq_false]
  exact ⟨46, h, by decide⟩
theorem join_data (a b : ByteArray) : (a ++ ⟨#[46]⟩ ++ b).data.toList = a.data.toList ++ 46 :: b.data.toList := by
  obtain ⟨⟨x⟩⟩ := a
  obtain ⟨⟨y⟩⟩ := b
  have e1 := ByteArray.mk_append_mk x [46]
  have e2 := ByteArray.mk_append_mk (x ++ [46]) y
  rw [show (⟨#[46]⟩ : ByteArray) = ⟨[46].toArray⟩ from rfl, e1, e2]
  simp
theorem join_size (a b : ByteArray) : (a ++ ⟨#[46]⟩ ++ b).size = a.size + 1 + b.size := by
  rw [ByteArray.size_append, ByteArray.size_append]; rfl
theorem indexByte_clean : ∀ (x y : List UInt8), (46 : UInt8) ∉ x → Lib.indexByte (x ++ 46 :: y) 46 = x.length
  | [], y, _ => by simp [Lib.indexByte]
  | c :: x, y, h => by
    have hc : (c == (46 : UInt8)) = false := by
      rw [beq_eq_false_iff_ne]; intro e; exact h (by rw [e]; exact List.mem_cons_self ..)
    have ih := indexByte_clean x y (fun hm => h (List.mem_cons_of_mem _ hm))
    rw [List.cons_append, Lib.indexByte, hc, ih]
    simp only [Bool.false_eq_true, if_false]
    rw [if_neg (by simp)]
    simp
theorem ext_eq {s a : ByteArray} (h : s.data.toList = a.data.toList) : s = a := by
  obtain ⟨⟨x⟩⟩ := s
  obtain ⟨⟨y⟩⟩ := a
  have : x = y := h
  rw [this]
/-- Two words with a point between are told apart just if both are names. -/
theorem dot_both (a b : ByteArray) (h : (nameB a.data.toList && nameB b.data.toList) = true) : dotR (a ++ ⟨#[46]⟩ ++ b) = (a, b, true) := by
  rw [Bool.and_eq_true] at h
  have hn : (46 : UInt8) ∉ a.data.toList := fun hm => by rw [mem_all hm] at h; cases h.1
  have hi : Lib.indexByte (a ++ ⟨#[46]⟩ ++ b).data.toList 46 = (a.size : Nat) := by
    rw [join_data, indexByte_clean _ _ hn, ← size_len]
  refine dotR_some hi (ext_eq ?_) (ext_eq ?_) h.1 h.2
  · rw [Lib.extract_data, join_data, List.drop_zero, Nat.sub_zero, size_len, List.take_left' rfl]
  · rw [Lib.extract_data, join_data, join_size]
    have e : a.size + 1 = (a.data.toList ++ [46]).length := by rw [List.length_append, ← size_len]; rfl
    rw [show a.data.toList ++ 46 :: b.data.toList = (a.data.toList ++ [46]) ++ b.data.toList by simp, e, List.drop_left' rfl]
    rw [List.take_of_length_le]
    rw [← size_len]; omega
theorem dot_not (a b : ByteArray) (h : (nameB a.data.toList && nameB b.data.toList) = false) : dotR (a ++ ⟨#[46]⟩ ++ b) = (⟨#[]⟩, ⟨#[]⟩, false) := by
  by_cases hm : (46 : UInt8) ∈ a.data.toList
  · -- the first point lies in a: a second one lies behind it
    rcases Int.lt_or_le (Lib.indexByte (a ++ ⟨#[46]⟩ ++ b).data.toList 46) 0 with h0 | h0
    · exact dotR_none (by have := Lib.indexByte_ge (a ++ ⟨#[46]⟩ ++ b).data.toList 46; omega)
    · obtain ⟨k, hk⟩ := Int.eq_ofNat_of_zero_le h0
      refine dotR_no hk rfl rfl ?_
      have hz : nameB ((a ++ ⟨#[46]⟩ ++ b).extract (k + 1) (a ++ ⟨#[46]⟩ ++ b).size).data.toList = false := by
        apply mem_all
        have hka : k < a.data.toList.length := by
          obtain ⟨j, hj, hje⟩ := List.getElem_of_mem hm
          obtain ⟨_, h2⟩ := Lib.indexByte_some hk
          rcases Nat.lt_or_ge j k with h3 | h3
          · exact absurd (by rw [join_data, List.getElem?_append_left hj, List.getElem?_eq_getElem hj, hje]) (h2 j h3)
          · omega
        rw [Lib.extract_data, join_data, join_size]
        rw [List.take_of_length_le (by simp only [List.length_drop, List.length_append, List.length_cons, ← size_len]; omega)]
        rw [List.drop_append_of_le_length (by omega)]
        exact List.mem_append_right _ (List.mem_cons_self ..)
      rw [hz]; simp
  · have hi : Lib.indexByte (a ++ ⟨#[46]⟩ ++ b).data.toList 46 = (a.size : Nat) := by
      rw [join_data, indexByte_clean _ _ hm, ← size_len]
    refine dotR_no (a := a) (b := b) hi (ext_eq ?_) (ext_eq ?_) h
    · rw [Lib.extract_data, join_data, List.drop_zero, Nat.sub_zero, size_len, List.take_left' rfl]
    · rw [Lib.extract_data, join_data, join_size]
      have e : a.size + 1 = (a.data.toList ++ [46]).length := by rw [List.length_append, ← size_len]; rfl
      rw [show a.data.toList ++ 46 :: b.data.toList = (a.data.toList ++ [46]) ++ b.data.toList by simp, e, List.drop_left' rfl]
      rw [List.take_of_length_le]
      rw [← size_len]; omega

set_option maxHeartbeats 400000 in
theorem DrawLexNum_any (a : Option Addr) (len cap : Nat) (w : World) (hl : len ≤ cap) (hm : cap ≤ maxLen) (h : Src w w.heap.size a len) :
    Calls Try.prog 22 #[.slice a len cap] w fun e w' => ∃ s : ByteArray, e = .returned (.string s) ∧ s.size ≤ 100 ∧ Below w.heap.size w w' := by
  have HO := hide (l23Open_any a len cap w hl hm h)
  clear h hl hm
  go_enter Try.func22, Try.ntmps22
  go_wp2_with fail
  refine (unhide HO).mono ?_
  rintro e w1 ⟨len', cap', rfl, hrd, hb, hsz⟩
  have HR := hide hrd
  have HB := hide hb
  have HZ := hide hsz
  clear hrd hb hsz
  go_wp2_with fail
  refine (pick_abs w.heap.size a len' cap' 0 2 _ (unhide HR) (by omega) (by omega)).mono ?_
  rintro e w2 ⟨i, rfl, i0, i1, hrd2, hmv⟩
  have HR2 := hide hrd2
  have HM := hide hmv
  have HB2 := hide ((unhide HB).trans hmv.1)
  have HZ2 : Hid (w2.heap.size = w.heap.size + 1) := hide (hmv.2.1.trans (unhide HZ))
  clear hrd2 hmv HR HZ
  by_cases hi : i = 0
  · subst hi
    go_wp2_with fail
    refine (pick_abs w.heap.size a len' cap' (0 + 1) 2000 _ (unhide HR2) (by omega) (by omega)).mono ?_
    rintro e w4 ⟨i4, rfl, j0, j1, hrd4, hmv4⟩
    have j2 := j1 (by omega)
    have HB4 := hide ((unhide HB2).trans hmv4.1)
    clear hrd4 hmv4 j1
    go_wp2_with fail
    refine (l23Dec_any (i4 - 1000) (by omega) (by omega) _).mono ?_
    rintro e w5 ⟨rfl, hb5⟩
    have HB5 := hide hb5
    have hsz := decI_size (i4 - 1000)
    clear hb5
    go_wp2
    go_ret
    exact ⟨_, rfl, by omega, (unhide HB4).trans ((unhide HB5).mono (unhide HB4).size)⟩
  · have hib : (i == 0) = false := by rw [beq_eq_false_iff_ne]; exact hi
    clear hi
    go_wp2_with fail
    refine (of_abs w.heap.size w2.heap.size 13 13 (strAt _) a len' cap' (0 + 1) _ ((unhide HR2).kept ((Below.refl _ _).alloc (by rw [unhide HZ2]; exact Nat.le_refl _) _)) (by omega) (by rw [unhide HZ2]; omega) (by omega) (by omega) (isList_of _ _ _ _ rfl rfl)).mono ?_
    rintro e w3 ⟨j, hj, rfl, hrd3, hmv3⟩
    have HM3 := hide hmv3
    clear hrd3 hmv3
    go_wp2
    go_ret
    refine ⟨_, rfl, strAt_len rfl _, ?_⟩
    exact ((unhide HB2).alloc (unhide HB2).size _).trans (unhide HM3).1
end Go.Proofs.Ytkegbdlbaanapaa
