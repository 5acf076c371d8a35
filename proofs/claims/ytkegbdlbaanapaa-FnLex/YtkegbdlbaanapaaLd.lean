/- The walk of the law on names and numbers: it returns true and turns nothing that was there. No conditions. -/
import Derived.Test.YtkegbdlbaanapaaDv
import Derived.Test.YtkegbdlbaanapaaWb
import Derived.OpenShut
namespace Go.Proofs.Ytkegbdlbaanapaa
open Go.RowKit Go.PlainAid

/-- What the walk is told of a slice of integers that came in. -/
def IsRow (k : IntKind) (w : World) (a : Option Addr) (len cap : Nat) (zs : List Int) : Prop :=
  (a = none ∧ len = 0 ∧ cap = 0 ∧ zs = []) ∨
  ∃ x, a = some x ∧ len ≤ cap ∧ cap ≤ maxLen ∧ zs.length = cap ∧ (∀ i, i < zs.length → w.cell? (x.add i) = some (.int k (zs.getD i 0))) ∧ ∀ n ∈ zs, (Lit.int k n).wf = true
theorem wf_u8 {n : Int} (h : (Lit.int .u8 n).wf = true) : 0 ≤ n ∧ n ≤ 255 := bounds_u8 h
theorem IsRow.src {w : World} {a : Option Addr} {len cap : Nat} {zs : List Int} (h : IsRow .u8 w a len cap zs) : len ≤ cap ∧ cap ≤ maxLen ∧ Src w w.heap.size a len := by
  rcases h with ⟨rfl, rfl, rfl, rfl⟩ | ⟨x, rfl, h1, h2, h3, h4, h5⟩
  · exact ⟨Nat.le_refl _, Nat.zero_le _, .inl rfl⟩
  · refine ⟨h1, h2, ?_⟩
    by_cases hl : len = 0
    · exact .inl hl
    · right
      obtain ⟨b, off, spot⟩ := x
      have hc := h4 0 (by omega)
      have hspot : spot = none := by simpa [Addr.add] using World.cell?_spot hc
      subst hspot
      refine ⟨b, off, fun j => zs.getD j 0, rfl, ?_, fun j => ?_, fun j hj => ?_⟩
      · have := block_lt_of_cell hc
        simpa [Addr.add] using this
      · by_cases hj : j < zs.length
        · have e : zs.getD j 0 = zs[j] := by simp [List.getD, hj]
          show 0 ≤ zs.getD j 0 ∧ zs.getD j 0 ≤ 255
          rw [e]
          exact wf_u8 (h5 _ (List.getElem_mem hj))
        · have e : zs.getD j 0 = 0 := by simp [List.getD, List.getElem?_eq_none (Nat.le_of_not_lt hj)]
          show 0 ≤ zs.getD j 0 ∧ zs.getD j 0 ≤ 255
          rw [e]
          omega
      · have := h4 j (by omega)
        by_cases e : j = 0
        · subst e; simpa [Addr.add] using this
        · simpa [Addr.add, e] using this
theorem bnext {w w1 w2 : World} (h : Below w.heap.size w w1) (k : Below w1.heap.size w1 w2) : Below w.heap.size w w2 := h.trans (k.mono h.size)
theorem Src.after {w w1 : World} {a : Option Addr} {len : Nat} (h : Src w w.heap.size a len) (k : Below w.heap.size w w1) : Src w1 w1.heap.size a len := h.kept k k.size

set_option maxHeartbeats 1000000 in
theorem fnLexName_walk (a0 : Option Addr) (len0 cap0 : Nat) (z0 : List Int) (a1 : Option Addr) (len1 cap1 : Nat) (z1 : List Int) (w : World) (w0 : IsRow .u8 w a0 len0 cap0 z0) (w1 : IsRow .u8 w a1 len1 cap1 z1) :
    Calls Try.prog 4 #[.slice a0 len0 cap0, .slice a1 len1 cap1] w fun e w' => e = .returned (.bool true) ∧ Below w.heap.size w w' := by
  obtain ⟨l0, m0, s0⟩ := w0.src
  obtain ⟨l1, m1, s1⟩ := w1.src
  have HM0 := hide m0
  have HM1 := hide m1
  have HS0 := hide s0
  have HS1 := hide s1
  have HL0 := hide l0
  have HL1 := hide l1
  unfold maxLen at m0 m1
  clear w0 w1 s0 s1
  by_cases h0 : 1048576 < len0
  · go_enter Try.func4, Try.ntmps4
    go_wp2
    go_ret
    exact ⟨rfl, Below.refl _ _⟩
  by_cases h1 : 1048576 < len1
  · go_enter Try.func4, Try.ntmps4
    go_wp2
    go_ret
    exact ⟨rfl, Below.refl _ _⟩
  go_enter Try.func4, Try.ntmps4
  go_wp2_with fail
  refine (DrawLexName_any a0 len0 cap0 _ (unhide HL0) (unhide HM0) (unhide HS0)).mono ?_
  rintro e w1 ⟨a, rfl, ha, hb1⟩
  have HB1 := hide hb1
  clear hb1
  go_wp2_with fail
  refine (DrawLexName_any a1 len1 cap1 _ (unhide HL1) (unhide HM1) ((unhide HS1).after (unhide HB1))).mono ?_
  rintro e w2 ⟨b, rfl, hb, hb2⟩
  have HB2 := hide (bnext (unhide HB1) hb2)
  clear hb2 HB1
  have hj : (a ++ ⟨#[46]⟩ ++ b).size ≤ maxLen := by rw [join_size]; unfold maxLen; omega
  have HJ := hide hj
  clear hj
  cases na : nameB a.data.toList with
  | true =>
    cases nb : nameB b.data.toList with
    | true =>
      have HD := hide (dot_both a b (by rw [na, nb]; rfl))
      go_wp2_with fail
      refine (LexDotI_any _ _ (unhide HJ)).mono ?_
      rintro e w3 ⟨rfl, hb3⟩
      have HB3 := hide (bnext (unhide HB2) hb3)
      clear hb3 HB2
      rw [unhide HD]
      go_wp2_with fail
      refine (LexNameI_any _ _).mono ?_
      rintro e w4 ⟨rfl, hb4⟩
      have HB4 := hide (bnext (unhide HB3) hb4)
      clear hb4 HB3
      rw [na]
      go_wp2_with fail
      refine (LexNameI_any _ _).mono ?_
      rintro e w5 ⟨rfl, hb5⟩
      have HB5 := hide (bnext (unhide HB4) hb5)
      clear hb5 HB4
      rw [nb]
      go_wp2_with fail
      refine (LexNameI_any _ _).mono ?_
      rintro e w6 ⟨rfl, hb6⟩
      have HB6 := hide (bnext (unhide HB5) hb6)
      clear hb6 HB5
      rw [na]
      go_wp2_with fail
      refine (LexNameS_any _ _).mono ?_
      rintro e w7 ⟨rfl, hb7⟩
      have HB7 := hide (bnext (unhide HB6) hb7)
      clear hb7 HB6
      rw [na]
      go_wp2_with fail
      refine (DrawLexNum_any a0 len0 cap0 _ (unhide HL0) (unhide HM0) ((unhide HS0).after (unhide HB7))).mono ?_
      rintro e w8 ⟨s, rfl, hs, hb8⟩
      have HB8 := hide (bnext (unhide HB7) hb8)
      clear hb8 HB7
      have hrange := numV_range s
      have HRG := hide hrange
      have hds := decI_size (numV s)
      have HNB := hide (num_back s)
      go_wp2_with fail
      refine (LexNumI_any s _).mono ?_
      rintro e w9 ⟨rfl, hb9⟩
      have HB9 := hide (bnext (unhide HB8) hb9)
      clear hb9 HB8
      go_wp2_with fail
      refine (LexNumS_any s _).mono ?_
      rintro e w' ⟨rfl, rfl⟩
      cases hnb : numB s with
      | false =>
        go_wp2_with fail
        refine (wlDec_any (numV s) (by have := (unhide HRG).1; omega) (by have := (unhide HRG).2; omega) _).mono ?_
        rintro e w10 ⟨rfl, hb10⟩
        have HB10 := hide (bnext (unhide HB9) hb10)
        clear hb10 HB9
        go_wp2_with fail
        refine (LexNumI_any _ _).mono ?_
        rintro e w11 ⟨rfl, hb11⟩
        have HB11 := hide (bnext (unhide HB10) hb11)
        clear hb11 HB10
        go_wp2
        go_ret
        exact ⟨rfl, unhide HB11⟩
      | true =>
        have hback := unhide HNB hnb
        go_wp2_with fail
        refine (wlDec_any (numV s) (by have := (unhide HRG).1; omega) (by have := (unhide HRG).2; omega) _).mono ?_
        rintro e w10 ⟨rfl, hb10⟩
        have HB10 := hide (bnext (unhide HB9) hb10)
        clear hb10 HB9
        rw [hback]
        go_wp2_with fail
        refine (LexNumI_any s _).mono ?_
        rintro e w11 ⟨rfl, hb11⟩
        have HB11 := hide (bnext (unhide HB10) hb11)
        clear hb11 HB10
        rw [hnb]
        go_wp2_with fail
        refine (wlDec_any (numV s) (by have := (unhide HRG).1; omega) (by have := (unhide HRG).2; omega) _).mono ?_
        rintro e w12 ⟨rfl, hb12⟩
        have HB12 := hide (bnext (unhide HB11) hb12)
        clear hb12 HB11
        rw [hback]
        go_wp2
        go_ret
        exact ⟨rfl, unhide HB12⟩
    | false =>
      have HD := hide (dot_not a b (by rw [nb]; simp))
      go_wp2_with fail
      refine (LexDotI_any _ _ (unhide HJ)).mono ?_
      rintro e w3 ⟨rfl, hb3⟩
      have HB3 := hide (bnext (unhide HB2) hb3)
      clear hb3 HB2
      rw [unhide HD]
      go_wp2_with fail
      refine (LexNameI_any _ _).mono ?_
      rintro e w4 ⟨rfl, hb4⟩
      have HB4 := hide (bnext (unhide HB3) hb4)
      clear hb4 HB3
      rw [na]
      go_wp2_with fail
      refine (LexNameI_any _ _).mono ?_
      rintro e w5 ⟨rfl, hb5⟩
      have HB5 := hide (bnext (unhide HB4) hb5)
      clear hb5 HB4
      rw [nb]
      go_wp2_with fail
      refine (LexNameI_any _ _).mono ?_
      rintro e w6 ⟨rfl, hb6⟩
      have HB6 := hide (bnext (unhide HB5) hb6)
      clear hb6 HB5
      rw [na]
      go_wp2_with fail
      refine (LexNameS_any _ _).mono ?_
      rintro e w7 ⟨rfl, hb7⟩
      have HB7 := hide (bnext (unhide HB6) hb7)
      clear hb7 HB6
      rw [na]
      go_wp2_with fail
      refine (DrawLexNum_any a0 len0 cap0 _ (unhide HL0) (unhide HM0) ((unhide HS0).after (unhide HB7))).mono ?_
      rintro e w8 ⟨s, rfl, hs, hb8⟩
      have HB8 := hide (bnext (unhide HB7) hb8)
      clear hb8 HB7
      have hrange := numV_range s
      have HRG := hide hrange
      have hds := decI_size (numV s)
      have HNB := hide (num_back s)
      go_wp2_with fail
      refine (LexNumI_any s _).mono ?_
      rintro e w9 ⟨rfl, hb9⟩
      have HB9 := hide (bnext (unhide HB8) hb9)
      clear hb9 HB8
      go_wp2_with fail
      refine (LexNumS_any s _).mono ?_
      rintro e w' ⟨rfl, rfl⟩
      cases hnb : numB s with
      | false =>
        go_wp2_with fail
        refine (wlDec_any (numV s) (by have := (unhide HRG).1; omega) (by have := (unhide HRG).2; omega) _).mono ?_
        rintro e w10 ⟨rfl, hb10⟩
        have HB10 := hide (bnext (unhide HB9) hb10)
        clear hb10 HB9
        go_wp2_with fail
        refine (LexNumI_any _ _).mono ?_
        rintro e w11 ⟨rfl, hb11⟩
        have HB11 := hide (bnext (unhide HB10) hb11)
        clear hb11 HB10
        go_wp2
        go_ret
        exact ⟨rfl, unhide HB11⟩
      | true =>
        have hback := unhide HNB hnb
        go_wp2_with fail
        refine (wlDec_any (numV s) (by have := (unhide HRG).1; omega) (by have := (unhide HRG).2; omega) _).mono ?_
        rintro e w10 ⟨rfl, hb10⟩
        have HB10 := hide (bnext (unhide HB9) hb10)
        clear hb10 HB9
        rw [hback]
        go_wp2_with fail
        refine (LexNumI_any s _).mono ?_
        rintro e w11 ⟨rfl, hb11⟩
        have HB11 := hide (bnext (unhide HB10) hb11)
        clear hb11 HB10
        rw [hnb]
        go_wp2_with fail
        refine (wlDec_any (numV s) (by have := (unhide HRG).1; omega) (by have := (unhide HRG).2; omega) _).mono ?_
        rintro e w12 ⟨rfl, hb12⟩
        have HB12 := hide (bnext (unhide HB11) hb12)
        clear hb12 HB11
        rw [hback]
        go_wp2
        go_ret
        exact ⟨rfl, unhide HB12⟩
  | false =>
    have HD := hide (dot_not a b (by rw [na]; rfl))
    go_wp2_with fail
    refine (LexDotI_any _ _ (unhide HJ)).mono ?_
    rintro e w3 ⟨rfl, hb3⟩
    have HB3 := hide (bnext (unhide HB2) hb3)
    clear hb3 HB2
    rw [unhide HD]
    go_wp2_with fail
    refine (LexNameI_any _ _).mono ?_
    rintro e w4 ⟨rfl, hb4⟩
    have HB4 := hide (bnext (unhide HB3) hb4)
    clear hb4 HB3
    rw [na]
    go_wp2_with fail
    refine (LexNameI_any _ _).mono ?_
    rintro e w5 ⟨rfl, hb5⟩
    have HB5 := hide (bnext (unhide HB4) hb5)
    clear hb5 HB4
    rw [na]
    go_wp2_with fail
    refine (LexNameS_any _ _).mono ?_
    rintro e w6 ⟨rfl, hb6⟩
    have HB6 := hide (bnext (unhide HB5) hb6)
    clear hb6 HB5
    rw [na]
    go_wp2_with fail
    refine (DrawLexNum_any a0 len0 cap0 _ (unhide HL0) (unhide HM0) ((unhide HS0).after (unhide HB6))).mono ?_
    rintro e w7 ⟨s, rfl, hs, hb7⟩
    have HB7 := hide (bnext (unhide HB6) hb7)
    clear hb7 HB6
    have hrange := numV_range s
    have HRG := hide hrange
    have hds := decI_size (numV s)
    have HNB := hide (num_back s)
    go_wp2_with fail
    refine (LexNumI_any s _).mono ?_
    rintro e w8 ⟨rfl, hb8⟩
    have HB8 := hide (bnext (unhide HB7) hb8)
    clear hb8 HB7
    go_wp2_with fail
    refine (LexNumS_any s _).mono ?_
    rintro e w' ⟨rfl, rfl⟩
    cases hnb : numB s with
    | false =>
      go_wp2_with fail
      refine (wlDec_any (numV s) (by have := (unhide HRG).1; omega) (by have := (unhide HRG).2; omega) _).mono ?_
      rintro e w9 ⟨rfl, hb9⟩
      have HB9 := hide (bnext (unhide HB8) hb9)
      clear hb9 HB8
      go_wp2_with fail
      refine (LexNumI_any _ _).mono ?_
      rintro e w10 ⟨rfl, hb10⟩
      have HB10 := hide (bnext (unhide HB9) hb10)
      clear hb10 HB9
      go_wp2
      go_ret
      exact ⟨rfl, unhide HB10⟩
    | true =>
      have hback := unhide HNB hnb
      go_wp2_with fail
      refine (wlDec_any (numV s) (by have := (unhide HRG).1; omega) (by have := (unhide HRG).2; omega) _).mono ?_
      rintro e w9 ⟨rfl, hb9⟩
      have HB9 := hide (bnext (unhide HB8) hb9)
      clear hb9 HB8
      rw [hback]
      go_wp2_with fail
      refine (LexNumI_any s _).mono ?_
      rintro e w10 ⟨rfl, hb10⟩
      have HB10 := hide (bnext (unhide HB9) hb10)
      clear hb10 HB9
      rw [hnb]
      go_wp2_with fail
      refine (wlDec_any (numV s) (by have := (unhide HRG).1; omega) (by have := (unhide HRG).2; omega) _).mono ?_
      rintro e w11 ⟨rfl, hb11⟩
      have HB11 := hide (bnext (unhide HB10) hb11)
      clear hb11 HB10
      rw [hback]
      go_wp2
      go_ret
      exact ⟨rfl, unhide HB11⟩
end Go.Proofs.Ytkegbdlbaanapaa
