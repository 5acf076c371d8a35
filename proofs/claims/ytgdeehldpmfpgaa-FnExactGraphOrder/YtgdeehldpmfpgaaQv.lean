/- The walk of container/heap's Pop at a graphHeap. Conditions: the heap's row is in a block of its own, a heap, and not empty. -/
import Derived.Test.YtgdeehldpmfpgaaQu
namespace Go.Proofs.Ytgdeehldpmfpgaa
open Go.RowKit Go.PlainAid

theorem hdown_int {base L o : Nat} {so : Option Addr} {cp : Nat} {xs : List ByteArray} {w : World} {N n : Nat} (hN : xs.length = N) (hc : w.cell? ⟨L, o, none⟩ = some (.slice so N cp)) (hL : L < base) (h : HRow w base so cp xs) (hi0 : 0 < N) (hn : n ≤ N) (hu : DownF (atF xs) n 0) (hx : N ≤ 8) (x y : Int) (ex : x = 0) (ey : y = n) :
    Calls Try.prog 60 #[.iface 77 (.pointer (some ⟨L, o, none⟩)), .int .i64 x, .int .i64 y] w fun r w' => ∃ b, r = .returned (.bool b) ∧ Sifted w base so cp n xs w' := by
  subst hN ex ey
  exact hdown_any base L o so cp xs 0 n w hc hL h hi0 hn hu hx
/-- The last of a row, and what is ahead of it. -/
theorem last_split {xs : List ByteArray} {n : Nat} (h : xs.length = n + 1) : ∃ ys, ys.length = n ∧ xs = ys ++ [atF xs n] ∧ ∀ k, k < n → atF ys k = atF xs k := by
  refine ⟨xs.take n, by simp; omega, ?_, fun k hk => ?_⟩
  · have e : atF xs n = xs[n]'(by omega) := by simp [atF, h]
    rw [e, List.take_append_getElem, List.take_of_length_le (by omega)]
  · simp [atF, List.getD_eq_getElem?_getD, hk]
theorem hlen_any (so : Option Addr) (n cp : Nat) (w : World) : Calls Try.prog 33 #[.slice so n cp] w fun r w' => r = .returned (.int .i64 n) ∧ w = w' := by
  go_enter Try.func33, Try.ntmps33
  go_wp2
  go_ret
  exact ⟨rfl, rfl⟩
/-- What Pop leaves. -/
def Popped (w : World) (base L o : Nat) (so : Option Addr) (cp : Nat) (xs : List ByteArray) (w' : World) : Prop := ∃ (ys : List ByteArray) (g : Nat) (Y : World), ys.length + 1 = xs.length ∧ (ys ++ [atF xs 0]).Perm xs ∧ HeapF (atF ys) ys.length ∧ so = some ⟨g, 0, none⟩ ∧ w' = Y.setCell ⟨L, o, none⟩ (.slice so ys.length cp) ∧ HRow w' base so cp ys ∧ w.grownBy Y (some g)

set_option maxRecDepth 100000 in
set_option maxHeartbeats 2000000 in
theorem hpop_any (base L o : Nat) (so : Option Addr) (cp : Nat) (xs : List ByteArray) (n : Nat) (w : World) (hc : w.cell? ⟨L, o, none⟩ = some (.slice so (n + 1) cp)) (hf : w.frozen? ⟨L, o, none⟩ = false) (hL : L < base) (h : HRow w base so cp xs) (hN : xs.length = n + 1) (hx : n ≤ 7) (hh : HeapF (atF xs) xs.length) :
    Calls Try.prog 54 #[.iface 77 (.pointer (some ⟨L, o, none⟩))] w fun r w' => r = .returned (.iface 9 (.string (atF xs 0))) ∧ Popped w base L o so cp xs w' := by
  obtain ⟨g, rfl, hb, hg, _, _⟩ := h.cell (i := 0) (by omega)
  have M0 : (method 244 77 (.pointer (some ⟨L, o, none⟩)) "Len").run Try.prog w = .ok (33, .slice (some ⟨g, 0, none⟩) (n + 1) cp) w := m_val mrow_len L o (some ⟨g, 0, none⟩) (n + 1) cp _ w hc
  have M1 : (method 244 77 (.pointer (some ⟨L, o, none⟩)) "Swap").run Try.prog w = .ok (114, .slice (some ⟨g, 0, none⟩) (n + 1) cp) w := m_val mrow_swap L o (some ⟨g, 0, none⟩) (n + 1) cp _ w hc
  have hd := DownF.start hh (by omega)
  have e1 : xs.length - 1 = n := by omega
  rw [e1] at hd
  have HD := hide hd
  have HC := hide hc
  have HF := hide hf
  have HSW := hide (hswap_int h hN 0 n (by omega) (by omega))
  clear hc hf h hd hh
  go_enter Try.func54, Try.ntmps54
  go_wp2_with fail
  refine (hlen_any _ _ _ _).mono ?_
  rintro r w0 ⟨rfl, rfl⟩
  go_wp2_with fail
  refine (unhide HSW _ _ (by first | rfl | omega) (by first | rfl | omega)).mono ?_
  rintro r w1 ⟨rfl, hr1, g1, hg1, hgr1⟩
  cases hg1
  have hc1 : w1.cell? ⟨L, o, none⟩ = some (.slice (some ⟨g, 0, none⟩) (n + 1) cp) := hp_cell (unhide HC) hL hb hgr1
  have HDN := hide (hdown_int ((swL_len xs 0 n).trans hN) hc1 hL hr1 (by omega) (by omega : n ≤ n + 1) (unhide HD) (by omega))
  clear HSW M0 M1 HD
  go_wp2_with fail
  refine (unhide HDN _ _ (by first | rfl | omega) (by first | rfl | omega)).mono ?_
  rintro r w2 ⟨b, rfl, xs2, hl2, hp2, ht2, hh2, hr2, g2, hg2, hgr2⟩
  cases hg2
  have hgr := gr_trans hgr1 hgr2
  have hN2 : xs2.length = n + 1 := (hl2.trans (swL_len xs 0 n)).trans hN
  have hc2 : w2.cell? ⟨L, o, none⟩ = some (.slice (some ⟨g, 0, none⟩) (n + 1) cp) := hp_cell (unhide HC) hL hb hgr
  have hf2 : w2.frozen? ⟨L, o, none⟩ = false := by
    have hlw : L < w.heap.size := by omega
    exact (World.frozen?_of_block (a := ⟨L, o, none⟩) (hgr.block L hlw (by simp; omega))).trans (unhide HF)
  obtain ⟨ys, hys, hxs, hat⟩ := last_split hN2
  have htop : atF xs2 n = atF xs 0 := by
    rw [ht2 n (Nat.le_refl _), swL_at (by omega) (by omega)]
    unfold swF
    by_cases e : n = 0
    · subst e; simp
    · simp [e]
  rw [htop] at hxs
  have HPO : Hid (Popped w base L o (some ⟨g, 0, none⟩) cp xs (w2.setCell ⟨L, o, none⟩ (.slice (some ⟨g, 0, none⟩) ys.length cp)) ∨ ¬ HRow (w2.setCell ⟨L, o, none⟩ (.slice (some ⟨g, 0, none⟩) ys.length cp)) base (some ⟨g, 0, none⟩) cp ys) := hide (by
    by_cases hr : HRow (w2.setCell ⟨L, o, none⟩ (.slice (some ⟨g, 0, none⟩) ys.length cp)) base (some ⟨g, 0, none⟩) cp ys
    · refine .inl ⟨ys, g, w2, by omega, ?_, ?_, rfl, rfl, hr, hgr⟩
      · rw [← hxs]
        exact hp2.trans (swL_perm (by omega) (by omega))
      · intro c h0 hcn
        rw [hat c (by omega), hat _ (by have := parG_lt h0; omega)]
        exact hh2 c h0 (by omega)
    · exact .inr hr)
  rw [← hys] at hc2
  have HPM := hide (hpopm_any base L o g cp ys (atF xs 0) w2 hc2 hf2 hL (by rw [← hxs]; exact hr2) (by omega))
  have M2 : (method 244 77 (.pointer (some ⟨L, o, none⟩)) "Pop").run Try.prog w2 = .ok (115, .pointer (some ⟨L, o, none⟩)) w2 := m_ptr mrow_pop ⟨L, o, none⟩ _ w2
  clear hr1 hgr1 hc1 HDN hl2 hp2 ht2 hh2 hr2 hgr2 hgr hc2 hf2 hat htop hxs
  go_wp2_with fail
  refine (unhide HPM).mono ?_
  rintro r w3 ⟨rfl, rfl, hr3⟩
  have HR3 := hide hr3
  clear hr3 HPM M2
  go_wp2
  go_ret
  refine ⟨rfl, ?_⟩
  rcases unhide HPO with hq | hq
  · rw [hys] at hq
    exact hq
  · exact absurd (unhide HR3) hq
end Go.Proofs.Ytgdeehldpmfpgaa
