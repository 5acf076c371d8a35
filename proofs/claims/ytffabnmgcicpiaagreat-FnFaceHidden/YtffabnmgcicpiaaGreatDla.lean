/- Functions of a module that stays: their cells, where these lie, that each stays, and their copy. No conditions. -/
import Derived.Test.YtffabnmgcicpiaaGreatDka
namespace Go.Proofs.YtffabnmgcicpiaaGreat
open Go.RowKit Go.PlainAid

theorem funs_elts {S : Nat → Prop} {h : Nat} {w : World} {a : Option Addr} {kids : List TF} (hk : KpD S w (fun W => IsFuns (IsFun W 0 W.heap.size h) W 0 W.heap.size a kids)) :
    ∃ ps : List (TF × List Value), ps.map Prod.fst = kids ∧ (∀ p ∈ ps, p.2.length = 9 ∧ ∀ u ∈ p.2, u.oneCell' = true) ∧ Srcs w a ps ∧ ∀ p ∈ ps, KpD S w (fun W => EltF h W p.1 p.2) := by
  by_cases h0 : kids = []
  · subst h0
    exact ⟨[], rfl, fun p hp => absurd hp List.not_mem_nil, .inl rfl, fun p hp => absurd hp List.not_mem_nil⟩
  rcases hk.now with e | ⟨b, off, rfl, _, hb, hc⟩
  · exact absurd e h0
  have hS : S b := by
    apply Classical.byContradiction
    intro hn
    rcases hk _ (wipeK_stay hn) with e | ⟨b', off', e, _, _, hc'⟩
    · exact h0 e
    · simp only [Option.some.injEq, Addr.mk.injEq, and_true] at e
      obtain ⟨rfl, rfl⟩ := e
      obtain ⟨c0, _, _, _, _, _, _, _, _, d0, _⟩ := hc' 0 (List.length_pos_iff.2 h0)
      rw [wipeK_cell] at d0
      cases d0
  obtain ⟨ps, hl, hps⟩ := list_ofK kids.length (fun i (e : TF × List Value) => (∃ hi : i < kids.length, e.1 = kids[i]) ∧ (e.2.length = 9 ∧ ∀ u ∈ e.2, u.oneCell' = true) ∧ (∀ t, t < 9 → w.cell? ⟨b, off + i * 9 + t, none⟩ = e.2[t]?) ∧ KpD S w (fun W => EltF h W e.1 e.2)) (fun i hi => by
    obtain ⟨c0, c1, c2, c3, c4, c5, c6, c7, c8, d0, d1, d2, d3, d4, d5, d6, d7, d8, hr⟩ := hc i hi
    refine ⟨(kids[i], [c0, c1, c2, c3, c4, c5, c6, c7, c8]), ⟨hi, rfl⟩, ⟨rfl, fun u hu => ?_⟩, fun t ht => ?_, fun W hW => ?_⟩
    · obtain ⟨xs, xp, xa, xl, xc, xt, xk, xm, xn, xd, ya, yl, yc, rfl, rfl, rfl, rfl, rfl, rfl, rfl, rfl, rfl⟩ := IsFun.form h hr
      simp only [List.mem_cons, List.not_mem_nil, or_false] at hu
      rcases hu with rfl | rfl | rfl | rfl | rfl | rfl | rfl | rfl | rfl <;> rfl
    · have h5 : t = 0 ∨ t = 1 ∨ t = 2 ∨ t = 3 ∨ t = 4 ∨ t = 5 ∨ t = 6 ∨ t = 7 ∨ t = 8 := by omega
      rcases h5 with rfl | rfl | rfl | rfl | rfl | rfl | rfl | rfl | rfl
      · exact d0
      · exact d1
      · exact d2
      · exact d3
      · exact d4
      · exact d5
      · exact d6
      · exact d7
      · exact d8
    · rcases hk W hW with e | ⟨b', off', e, _, _, hc'⟩
      · exact absurd e h0
      simp only [Option.some.injEq, Addr.mk.injEq, and_true] at e
      obtain ⟨rfl, rfl⟩ := e
      obtain ⟨x0, x1, x2, x3, x4, x5, x6, x7, x8, y0, y1, y2, y3, y4, y5, y6, y7, y8, hr'⟩ := hc' i hi
      have hx : ∀ o, W.cell? ⟨b, o, none⟩ = w.cell? ⟨b, o, none⟩ := fun o => World.cell?_of_block (w := w) (a := ⟨b, o, none⟩) (hW.2 b hb hS)
      rw [hx, d0] at y0; cases y0
      rw [hx, d1] at y1; cases y1
      rw [hx, d2] at y2; cases y2
      rw [hx, d3] at y3; cases y3
      rw [hx, d4] at y4; cases y4
      rw [hx, d5] at y5; cases y5
      rw [hx, d6] at y6; cases y6
      rw [hx, d7] at y7; cases y7
      rw [hx, d8] at y8; cases y8
      exact ⟨_, _, _, _, _, _, _, _, _, rfl, hr'⟩)
  have hone : ∀ p ∈ ps, p.2.length = 9 ∧ ∀ u ∈ p.2, u.oneCell' = true := fun p hp => by
    obtain ⟨i, hi, rfl⟩ := List.getElem_of_mem hp
    exact (hps i hi).2.1
  refine ⟨ps, ?_, hone, .inr ⟨b, off, rfl, fun j u hu => ?_⟩, fun p hp => ?_⟩
  · apply List.ext_getElem
    · simpa using hl
    · intro i h1 h2
      rw [List.getElem_map]
      obtain ⟨⟨_, e⟩, _⟩ := hps i (by simpa using h1)
      exact e
  · have hlen := flat_len hone
    have hj : j < ps.length * 9 := by rw [← hlen]; exact (List.getElem?_eq_some_iff.1 hu).1
    have hq : j / 9 < ps.length := Nat.div_lt_of_lt_mul (by rw [Nat.mul_comm]; exact hj)
    have hm : j % 9 < 9 := Nat.mod_lt _ (by omega)
    have he : j / 9 * 9 + j % 9 = j := by omega
    have h1 := flat_at hone (j / 9) hq (j % 9) hm
    rw [he, hu] at h1
    have h2 := (hps (j / 9) hq).2.2.1 (j % 9) hm
    rw [show off + j / 9 * 9 + j % 9 = off + j by omega] at h2
    rw [h2, ← h1]
  · obtain ⟨i, hi, rfl⟩ := List.getElem_of_mem hp
    exact (hps i hi).2.2.2
/-- The functions of a module, copied into a row of their own. -/
theorem copyFn {S : Nat → Prop} {h B len cap N p q : Nat} {a0 a : Option Addr} {w0 w : World} {kids : List TF} (hk : KpD S w (fun W => IsFuns (IsFun W 0 W.heap.size h) W 0 W.heap.size a kids)) (c : Nat) (hn : kids.length ≤ 90000) (hR : RdM B a0 len cap N w0 w p q) (hB : B < w0.heap.size) :
    ∃ (g c7 : Nat) (W7 : World) (ps : List (TF × List Value)), ps.map Prod.fst = kids ∧ (Builtin.append_ #[24, 24] 24 #[.slice (some ⟨w.heap.size, 0, none⟩) 0 0, .slice a kids.length c]).run Tryz.prog (w.alloc (.cells #[] 33)) = .ok (.slice (some ⟨g, 0, none⟩) kids.length c7) W7 ∧
      OwnD (EltF h) 9 33 (fun b => S b ∨ w.heap.size ≤ b) w.heap.size W7 (.slice (some ⟨g, 0, none⟩) kids.length c7) ps ∧ RdM B a0 len cap N w0 W7 p q ∧ Below w.heap.size w W7 := by
  obtain ⟨ps, hf, h5, hs, he⟩ := funs_elts hk
  have hl : ps.length = kids.length := by rw [← hf, List.length_map]
  obtain ⟨ie, hei, hez0, hez1, hez2⟩ := info_parts infoF
  have hst : ∀ S' : Nat → Prop, StayD S' w (w.alloc (.cells #[] 33)) := fun S' => StayD.below (below_one w _)
  have hsrc : Srcs (w.alloc (.cells #[] 33)) a ps := by
    rcases hs with e | ⟨b, off, ha, hc⟩
    · exact .inl e
    · exact .inr ⟨b, off, ha, fun j u hu => by
        have h1 := hc j u hu
        have hb : b < w.heap.size := by
          apply Classical.byContradiction
          intro hn
          unfold World.cell? at h1
          rw [Array.getElem?_eq_none (by show w.heap.size ≤ b; omega)] at h1
          cases h1
        exact ((below_one w (.cells #[] 33)).cell (p := ⟨b, off + j, none⟩) hb).trans h1⟩
  obtain ⟨g, c7, W7, r, o, y, -⟩ := appAllW (OwnD.made (EltF h) 9 33 (fun b => S b ∨ w.heap.size ≤ b) w) (by rw [alloc_size]; omega) 24 ie _ 128 Tryz.underlying24 hei hez0 hez1 hez2 rfl (by omega) (by omega) a c ps h5 hsrc (by rw [List.length_nil]; omega) (fun x hx => ((he x hx).less (fun b hb h => ⟨.inl h, fun e => by have e' := Option.some.inj e; omega⟩)).stay (hst _))
  simp only [List.length_nil, Nat.zero_add, List.nil_append, hl] at r o
  refine ⟨g, c7, W7, ps, hf, r, o, (hR.alloc hB _).grown (v := .slice (some ⟨w.heap.size, 0, none⟩) 0 0) hB y (fun k hk => by have : w.heap.size = k := Option.some.inj hk; have := hR.size; omega), ?_⟩
  have hb7 : Below w.heap.size w W7 := (below_one w (.cells #[] 33)).grown y (by rw [alloc_size]; omega) (fun k hk => by have : w.heap.size = k := Option.some.inj hk; omega)
  exact hb7
end Go.Proofs.YtffabnmgcicpiaaGreat
