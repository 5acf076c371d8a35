/- The walk of container/heap's up at a graphHeap. Conditions: the heap's row is in a block of its own. -/
import Derived.Test.YtgdeehldpmfpgaaQq
namespace Go.Proofs.Ytgdeehldpmfpgaa
open Go.RowKit Go.PlainAid

/-- What up and down leave: the same words in another order, a heap. -/
def Sifted (w : World) (base : Nat) (so : Option Addr) (cp n : Nat) (xs : List ByteArray) (w' : World) : Prop := ∃ xs' : List ByteArray, xs'.length = xs.length ∧ xs'.Perm xs ∧ (∀ j, n ≤ j → atF xs' j = atF xs j) ∧ HeapF (atF xs') n ∧ HRow w' base so cp xs' ∧ ∃ g, so = some ⟨g, 0, none⟩ ∧ w.grownBy w' (some g)
theorem hp_cell {w w' : World} {base L o : Nat} {g : Nat} {v : Value} (h : w.cell? ⟨L, o, none⟩ = some v) (hL : L < base) (hb : base ≤ g) (hg : w.grownBy w' (some g)) : w'.cell? ⟨L, o, none⟩ = some v :=
  hg.cell h (by simp; omega)

set_option maxRecDepth 100000 in
set_option maxHeartbeats 2000000 in
theorem hup_any (base L o : Nat) (so : Option Addr) (cp : Nat) (xs : List ByteArray) (j : Nat) (w : World) (hc : w.cell? ⟨L, o, none⟩ = some (.slice so xs.length cp)) (hL : L < base) (h : HRow w base so cp xs) (hj : j < xs.length) (hu : UpF (atF xs) xs.length j) (hx : xs.length ≤ 8) :
    Calls Try.prog 66 #[.iface 77 (.pointer (some ⟨L, o, none⟩)), .int .i64 j] w fun r w' => r = .returned (.tuple #[]) ∧ Sifted w base so cp xs.length xs w' := by
  obtain ⟨g, rfl, hb, hg, _, _⟩ := h.cell hj
  have HC := hide hc
  have HR := hide h
  have HU := hide hu
  clear hc h hu
  go_enter Try.func66, Try.ntmps66
  go_wp2
  go_loopw [1] (fun v1 wr => ∃ (jj : Nat) (ys : List ByteArray), v1 = .int .i64 jj ∧ jj < xs.length ∧ Hid (ys.length = xs.length) ∧ Hid (ys.Perm xs) ∧ Hid (UpF (atF ys) xs.length jj) ∧ Hid (HRow wr base (some ⟨g, 0, none⟩) cp ys) ∧ Hid (w.grownBy wr (some g))) (fun v1 _ => (intOf v1).toNat)
  case atStart => exact ⟨j, xs, rfl, hj, hide rfl, hide (.refl _), HU, HR, hide (gr_below (Below.refl _ _) _)⟩
  case round =>
    obtain ⟨jj, ys, rfl, hjj, HL, HP, HUP, HRO, HGR⟩ := hrel
    have HDONE : Hid ((jj = 0 ∨ ¬ ltN (atF ys jj) (atF ys (parG jj))) → ∀ W, HRow W base (some ⟨g, 0, none⟩) cp ys → w.grownBy W (some g) → Sifted w base (some ⟨g, 0, none⟩) cp xs.length xs W) := hide (fun hd W hr hgr => ⟨ys, unhide HL, unhide HP, fun k hk => by have h1 := unhide HL; simp [atF, List.getD_eq_getElem?_getD, List.getElem?_eq_none (l := ys) (i := k) (by omega), List.getElem?_eq_none (l := xs) (i := k) hk], (unhide HUP).done hd, hr, g, rfl, hgr⟩)
    cases jj with
    | zero =>
      have HX := hide (unhide HDONE (.inl rfl) _ (unhide HRO) (unhide HGR))
      clear HDONE
      go_wp2
      go_end0
      exact ⟨rfl, unhide HX⟩
    | succ p =>
      have hC : wr.cell? ⟨L, o, none⟩ = some (.slice (some ⟨g, 0, none⟩) xs.length cp) := hp_cell (unhide HC) hL hb (unhide HGR)
      have M1 : (method 244 77 (.pointer (some ⟨L, o, none⟩)) "Less").run Try.prog wr = .ok (113, .slice (some ⟨g, 0, none⟩) xs.length cp) wr := m_val mrow_less L o (some ⟨g, 0, none⟩) xs.length cp _ wr hC
      have hne : ((p : Int) / 2 == (p : Int) + 1) = false := by simp only [beq_eq_false_iff_ne]; omega
      have e1 : ((p + 1 : Nat) : Int) = (p : Int) + 1 := by omega
      have e2 : ((p / 2 : Nat) : Int) = (p : Int) / 2 := by omega
      have hpar : parG (p + 1) = p / 2 := by unfold parG; omega
      have hl1 := unhide HL
      have HLS := hide (hless_any base (some ⟨g, 0, none⟩) cp ys (p + 1) (p / 2) wr (unhide HRO) (by omega) (by omega))
      rw [e1, e2, hl1] at HLS
      have HSW := hide (fun (W : World) (hr : HRow W base (some ⟨g, 0, none⟩) cp ys) => hswap_any base (some ⟨g, 0, none⟩) cp ys (p / 2) (p + 1) W hr (by omega) (by omega))
      simp only [e1, e2, hl1] at HSW
      have HNX := hide (fun hl => (unhide HUP).next (Nat.succ_pos p) hjj hl)
      rw [hpar] at HNX HDONE
      obtain ⟨t, ht⟩ : ∃ t, Op.bytesLess (atF ys (p + 1)).toList (atF ys (p / 2)).toList = t := ⟨_, rfl⟩
      have HT : Hid (t = true ↔ ltN (atF ys (p + 1)) (atF ys (p / 2))) := hide (by rw [← ht]; exact ltN_less _ _)
      rw [ht] at HLS
      clear ht
      go_wp2_with fail
      refine (unhide HLS).mono ?_
      rintro r w2 ⟨rfl, hb2⟩
      have HRO2 : Hid (HRow w2 base (some ⟨g, 0, none⟩) cp ys) := hide (own_keptG (unhide HRO) hb2)
      have HGR2 := hide (gr_trans (unhide HGR) (gr_below hb2 _))
      cases t with
      | false =>
        have HX := hide (unhide HDONE (.inr (fun hlt => by have := (unhide HT).2 hlt; cases this)) _ (unhide HRO2) (unhide HGR2))
        clear HDONE HSW HNX HLS
        go_wp2
        go_end0
        exact ⟨rfl, unhide HX⟩
      | true =>
        have HN2 := hide (unhide HNX ((unhide HT).1 rfl))
        have hC2 : w2.cell? ⟨L, o, none⟩ = some (.slice (some ⟨g, 0, none⟩) xs.length cp) := hp_cell (unhide HC) hL hb (unhide HGR2)
        have M2 : (method 244 77 (.pointer (some ⟨L, o, none⟩)) "Swap").run Try.prog w2 = .ok (114, .slice (some ⟨g, 0, none⟩) xs.length cp) w2 := m_val mrow_swap L o (some ⟨g, 0, none⟩) xs.length cp _ w2 hC2
        clear HDONE HNX HLS M1 hC
        go_wp2_with fail
        refine (unhide HSW _ (unhide HRO2)).mono ?_
        rintro r w3 ⟨rfl, hr3, g', hg', hgr3⟩
        cases hg'
        have HRO3 := hide hr3
        have HGR3 := hide (gr_trans (unhide HGR2) hgr3)
        clear hr3 hgr3 HSW M2 hC2
        go_wp2
        go_roundw
        case rel => exact ⟨p / 2, swL ys (p / 2) (p + 1), by rw [e2], by omega, hide ((swL_len _ _ _).trans hl1), hide ((swL_perm (by omega) (by omega)).trans (unhide HP)), hide (by rw [swL_at (by omega) (by omega)]; exact unhide HN2), HRO3, HGR3⟩
        case measure => simp [intOf]; omega
end Go.Proofs.Ytgdeehldpmfpgaa
