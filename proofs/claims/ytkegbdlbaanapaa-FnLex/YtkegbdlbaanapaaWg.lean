/- The walks of impl.LexDot and spec.LexDot: both answer the two names of a word with a point, or nothing. No conditions but that the text is a Go string. -/
import Derived.Test.YtkegbdlbaanapaaWf
namespace Go.Proofs.Ytkegbdlbaanapaa
open Go.RowKit Go.PlainAid

/-- What stands ahead of the first point and behind it, and whether both are names. -/
def dotR (s : ByteArray) : ByteArray × ByteArray × Bool :=
  if 0 ≤ Lib.indexByte s.data.toList 46 then
    (if (nameB (s.extract 0 (Lib.indexByte s.data.toList 46).toNat).data.toList && nameB (s.extract ((Lib.indexByte s.data.toList 46).toNat + 1) s.size).data.toList) = true
      then (s.extract 0 (Lib.indexByte s.data.toList 46).toNat, s.extract ((Lib.indexByte s.data.toList 46).toNat + 1) s.size, true) else (⟨#[]⟩, ⟨#[]⟩, false))
  else (⟨#[]⟩, ⟨#[]⟩, false)
theorem dotR_none {s : ByteArray} (h : Lib.indexByte s.data.toList 46 = -1) : dotR s = (⟨#[]⟩, ⟨#[]⟩, false) := by
  unfold dotR; rw [h, if_neg (by omega)]
theorem dotR_some {s a b : ByteArray} {k : Nat} (h : Lib.indexByte s.data.toList 46 = k) (ha : s.extract 0 k = a) (hb : s.extract (k + 1) s.size = b) (h1 : nameB a.data.toList = true) (h2 : nameB b.data.toList = true) : dotR s = (a, b, true) := by
  unfold dotR; rw [h, if_pos (by omega), Int.toNat_natCast, ha, hb, h1, h2]; rfl
theorem dotR_no {s a b : ByteArray} {k : Nat} (h : Lib.indexByte s.data.toList 46 = k) (ha : s.extract 0 k = a) (hb : s.extract (k + 1) s.size = b) (h1 : (nameB a.data.toList && nameB b.data.toList) = false) : dotR s = (⟨#[]⟩, ⟨#[]⟩, false) := by
  unfold dotR; rw [h, if_pos (by omega), Int.toNat_natCast, ha, hb, h1]; rfl
theorem nameB_len {l : List UInt8} (h : nameB l = true) : l.length ≤ 8 := by
  unfold nameB at h
  simp only [Bool.and_eq_true, decide_eq_true_eq] at h
  exact h.1.1.2
theorem ret_dot {a b x y : ByteArray} {c d : Bool} {r : ByteArray × ByteArray × Bool} (h : r = (a, b, c)) (h1 : x = a) (h2 : y = b) (h3 : d = c) : Ending.returned (.tuple #[.string x, .string y, .bool d]) = .returned (.tuple #[.string r.1, .string r.2.1, .bool r.2.2]) := by
  subst h h1 h2 h3; rfl

set_option maxHeartbeats 800000 in
theorem LexDotI_any (s : ByteArray) (w : World) (hs : s.size ≤ maxLen) :
    Calls Try.prog 19 #[.string s] w fun e w' => e = .returned (.tuple #[.string (dotR s).1, .string (dotR s).2.1, .bool (dotR s).2.2]) ∧ Below w.heap.size w w' := by
  have hS := hide hs
  rcases Int.lt_or_le (Lib.indexByte s.data.toList 46) 0 with h0 | h0
  · have h1 : Lib.indexByte s.data.toList 46 = -1 := by have := Lib.indexByte_ge s.data.toList 46; omega
    have H := hide h1
    have HR := hide (dotR_none h1)
    generalize dotR s = r at *
    clear h0 h1 hs
    go_enter Try.func19, Try.ntmps19
    go_wp2_with fail
    refine (Cut_no s _ (unhide H)).mono ?_
    rintro e w1 ⟨rfl, rfl⟩
    go_wp2
    go_ret3
    exact ⟨ret_dot (unhide HR) rfl rfl rfl, Below.refl _ _⟩
  · obtain ⟨k, hk⟩ := Int.eq_ofNat_of_zero_le h0
    have H := hide hk
    have hr1 := fun (a b : ByteArray) (ha : s.extract 0 k = a) (hb : s.extract (k + 1) s.size = b) => @dotR_some s a b k hk ha hb
    have hr2 := fun (a b : ByteArray) (ha : s.extract 0 k = a) (hb : s.extract (k + 1) s.size = b) => @dotR_no s a b k hk ha hb
    have hcut := fun w => Cut_yes s k w hs hk
    generalize dotR s = r at *
    clear h0 hk hs
    obtain ⟨a, ha⟩ : ∃ a, s.extract 0 k = a := ⟨_, rfl⟩
    obtain ⟨b, hb⟩ : ∃ b, s.extract (k + 1) s.size = b := ⟨_, rfl⟩
    have hr1 := hide (hr1 a b ha hb)
    have hr2 := hide (hr2 a b ha hb)
    rw [ha, hb] at hcut
    have HC := hide hcut
    clear hcut ha hb
    cases hna : nameB a.data.toList with
    | false =>
      have HR := hide (unhide hr2 (by rw [hna]; rfl))
      clear hr1 hr2
      go_enter Try.func19, Try.ntmps19
      go_wp2_with fail
      refine (unhide HC _).mono ?_
      rintro e w1 ⟨rfl, hb1⟩
      go_wp2_with fail
      refine (LexNameI_any _ _).mono ?_
      rintro e w2 ⟨rfl, hb2⟩
      go_wp2
      go_ret3
      exact ⟨ret_dot (unhide HR) rfl rfl rfl, hb1.trans (hb2.mono hb1.size)⟩
    | true =>
      cases hnb : nameB b.data.toList with
      | false =>
        have HR := hide (unhide hr2 (by rw [hnb]; simp))
        clear hr1 hr2
        go_enter Try.func19, Try.ntmps19
        go_wp2_with fail
        refine (unhide HC _).mono ?_
        rintro e w1 ⟨rfl, hb1⟩
        go_wp2_with fail
        refine (LexNameI_any _ _).mono ?_
        rintro e w2 ⟨rfl, hb2⟩
        go_wp2_with fail
        refine (LexNameI_any _ _).mono ?_
        rintro e w3 ⟨rfl, hb3⟩
        go_wp2
        go_ret3
        have h12 := hb1.trans (hb2.mono hb1.size)
        exact ⟨ret_dot (unhide HR) rfl rfl rfl, h12.trans (hb3.mono h12.size)⟩
      | true =>
        have HR := hide (unhide hr1 hna hnb)
        have l1 : a.size ≤ 281474976710656 := by have := nameB_len hna; rw [← size_len] at this; omega
        have l2 : b.size ≤ 281474976710656 := by have := nameB_len hnb; rw [← size_len] at this; omega
        clear hr1 hr2
        go_enter Try.func19, Try.ntmps19
        go_wp2_with fail
        refine (unhide HC _).mono ?_
        rintro e w1 ⟨rfl, hb1⟩
        go_wp2_with fail
        refine (LexNameI_any _ _).mono ?_
        rintro e w2 ⟨rfl, hb2⟩
        go_wp2_with fail
        refine (LexNameI_any _ _).mono ?_
        rintro e w3 ⟨rfl, hb3⟩
        go_wp2_with fail
        refine (Clone_any _ _ l1).mono ?_
        rintro e w4 ⟨rfl, hb4⟩
        go_wp2_with fail
        refine (Clone_any _ _ l2).mono ?_
        rintro e w5 ⟨rfl, hb5⟩
        go_wp2
        go_ret3
        have h12 := hb1.trans (hb2.mono hb1.size)
        have h13 := h12.trans (hb3.mono h12.size)
        have h14 := h13.trans (hb4.mono h13.size)
        exact ⟨ret_dot (unhide HR) rfl rfl rfl, h14.trans (hb5.mono h14.size)⟩

set_option maxHeartbeats 800000 in
theorem LexDotS_any (s : ByteArray) (w : World) (hs : s.size ≤ maxLen) :
    Calls Try.prog 31 #[.string s] w fun e w' => e = .returned (.tuple #[.string (dotR s).1, .string (dotR s).2.1, .bool (dotR s).2.2]) ∧ Below w.heap.size w w' := by
  have hS := hide hs
  have hfind : ∀ w, Calls Try.prog 52 #[.string s, .int .u8 46] w fun e w' => e = .returned (.int .i64 (Lib.indexByte s.data.toList 46)) ∧ w = w' := fun w => l23Find_any s 46 w hs
  rcases Int.lt_or_le (Lib.indexByte s.data.toList 46) 0 with h0 | h0
  · have h1 : Lib.indexByte s.data.toList 46 = -1 := by have := Lib.indexByte_ge s.data.toList 46; omega
    have HR := hide (dotR_none h1)
    rw [h1] at hfind
    have HFD := hide hfind
    generalize dotR s = r at *
    clear h0 h1 hs hfind
    go_enter Try.func31, Try.ntmps31
    go_wp2_with fail
    refine (unhide HFD _).mono ?_
    rintro e w1 ⟨rfl, rfl⟩
    go_wp2
    go_ret3
    exact ⟨ret_dot (unhide HR) rfl rfl rfl, Below.refl _ _⟩
  · obtain ⟨k, hk⟩ := Int.eq_ofNat_of_zero_le h0
    have hklt := find_lt s 46 k hk
    rw [hk] at hfind
    have HFD := hide hfind
    have hr1 := fun (a b : ByteArray) (ha : s.extract 0 k = a) (hb : s.extract (k + 1) s.size = b) => @dotR_some s a b k hk ha hb
    have hr2 := fun (a b : ByteArray) (ha : s.extract 0 k = a) (hb : s.extract (k + 1) s.size = b) => @dotR_no s a b k hk ha hb
    generalize dotR s = r at *
    unfold maxLen at hs
    clear h0 hk hfind
    obtain ⟨a, ha⟩ : ∃ a, s.extract 0 k = a := ⟨_, rfl⟩
    obtain ⟨b, hb⟩ : ∃ b, s.extract (k + 1) s.size = b := ⟨_, rfl⟩
    have hr1 := hide (hr1 a b ha hb)
    have hr2 := hide (hr2 a b ha hb)
    cases hna : nameB a.data.toList with
    | false =>
      have HR := hide (unhide hr2 (by rw [hna]; rfl))
      clear hr1 hr2
      go_enter Try.func31, Try.ntmps31
      go_wp2_with fail
      refine (unhide HFD _).mono ?_
      rintro e w1 ⟨rfl, rfl⟩
      go_wp2_with fail
      refine (LexNameS_any _ _).mono ?_
      rintro e w2 ⟨rfl, hb2⟩
      go_wp2
      go_ret3
      exact ⟨ret_dot (unhide HR) rfl rfl rfl, hb2⟩
    | true =>
      cases hnb : nameB b.data.toList with
      | false =>
        have HR := hide (unhide hr2 (by rw [hnb]; simp))
        clear hr1 hr2
        go_enter Try.func31, Try.ntmps31
        go_wp2_with fail
        refine (unhide HFD _).mono ?_
        rintro e w1 ⟨rfl, rfl⟩
        go_wp2_with fail
        refine (LexNameS_any _ _).mono ?_
        rintro e w2 ⟨rfl, hb2⟩
        go_wp2_with fail
        refine (LexNameS_any _ _).mono ?_
        rintro e w3 ⟨rfl, hb3⟩
        go_wp2
        go_ret3
        exact ⟨ret_dot (unhide HR) rfl rfl rfl, hb2.trans (hb3.mono hb2.size)⟩
      | true =>
        have HR := hide (unhide hr1 hna hnb)
        clear hr1 hr2
        go_enter Try.func31, Try.ntmps31
        go_wp2_with fail
        refine (unhide HFD _).mono ?_
        rintro e w1 ⟨rfl, rfl⟩
        go_wp2_with fail
        refine (LexNameS_any _ _).mono ?_
        rintro e w2 ⟨rfl, hb2⟩
        go_wp2_with fail
        refine (LexNameS_any _ _).mono ?_
        rintro e w3 ⟨rfl, hb3⟩
        go_wp2
        go_quiet (fail)
        go_wp2
        go_ret3
        exact ⟨ret_dot (unhide HR) rfl rfl rfl, below_drewN (hb2.trans (hb3.mono hb2.size)) _⟩
end Go.Proofs.Ytkegbdlbaanapaa
