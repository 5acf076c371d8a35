/- Kids of an expression that stays, and rows of up to 100000 elements. No conditions. -/
import Derived.Test.YtffabnmgcicpiaaGreatDma
namespace Go.Proofs.YtffabnmgcicpiaaGreat
open Go.RowKit Go.PlainAid

/-- OwnD.more, and where the row lies behind it. -/
theorem OwnD.moreW {α : Type} {R : World → α → List Value → Prop} {k : Nat} {T : TypeId} {S : Nat → Prop} {lo : Nat} {w : World} {v : Value} {ps : List (α × List Value)} (h : OwnD R k T S lo w v ps) (hlo : lo ≤ w.heap.size)
    (t : TypeId) (i : TypeInfo) (z : Value) (bytes : Nat) (ht : Tryz.prog.underlying t = some (.slice T)) (hi : Tryz.prog.info? T = some i) (hz : i.zero = some z) (hk : i.size = k) (hby : i.bytes = bytes) (hzs : z.cells.size = k) (hk0 : 0 < k) (hbb : bytes ≤ 1000)
    (ad : Addr) (c : Nat) (xs : List (α × List Value)) (hx0 : 0 < xs.length) (hone : ∀ p ∈ xs, p.2.length = k ∧ ∀ u ∈ p.2, u.oneCell' = true)
    (hnews : ∀ j u, ((xs.map Prod.snd).flatten)[j]? = some u → w.cell? (ad.add j) = some u) (hn : ps.length + xs.length ≤ 100000) (hels : ∀ p ∈ xs, KpD (OffD S v.ownBlock) w (fun W => R W p.1 p.2)) :
    ∃ g cap w', (Builtin.append_ #[t, t] t #[v, .slice (some ad) xs.length c]).run Tryz.prog w = .ok (.slice (some ⟨g, 0, none⟩) (ps.length + xs.length) cap) w' ∧
      OwnD R k T S lo w' (.slice (some ⟨g, 0, none⟩) (ps.length + xs.length) cap) (ps ++ xs) ∧ w.grownBy w' v.ownBlock ∧ (v.ownBlock = some g ∨ g = w.heap.size) := by
  have hb2 : (ps.length + xs.length) * bytes ≤ 100000 * 1000 := Nat.mul_le_mul hn hbb
  obtain ⟨g, cap, w', hr, h2, h3, h4, h5⟩ := run_append_lies (P := Tryz.prog) (w := w) t t lo T i z k bytes ht hi hz hk hby hzs hk0 v ps.length _ h.row ad xs.length c _ (flat_len hone) hnews
    (fun u hu => by
      rw [List.mem_flatten] at hu
      obtain ⟨l, hl, hu⟩ := hu
      obtain ⟨p, hp, rfl⟩ := List.mem_map.1 hl
      exact (hone p hp).2 u hu) hx0 (by unfold maxLen; omega) (by omega) hlo _ rfl
  refine ⟨g, cap, w', hr, ⟨?_, ?_, ?_⟩, h3, h4⟩
  · rw [List.length_append, List.map_append, List.flatten_append]; exact h2
  · intro p hp
    rcases List.mem_append.1 hp with hp | hp
    · exact h.one p hp
    · exact hone p hp
  · have hall : ∀ p : α × List Value, KpD (OffD S v.ownBlock) w (fun W => R W p.1 p.2) → KpD (OffD S (Value.slice (some ⟨g, 0, none⟩) (ps.length + xs.length) cap).ownBlock) w' (fun W => R W p.1 p.2) := by
      intro p hp W hW
      refine hp W ⟨Nat.le_trans h3.size hW.1, fun b hb hs => (hW.2 b (Nat.lt_of_lt_of_le hb h3.size) ⟨hs.1, ?_⟩).trans (h3.block b hb hs.2)⟩
      intro e
      have e' : b = g := Option.some.inj (show some b = some g from e)
      rcases h4 with h4 | h4
      · exact hs.2 (by rw [h4, e'])
      · omega
    intro p hp
    rcases List.mem_append.1 hp with hp | hp
    · exact hall p (h.els p hp)
    · exact hall p (hels p hp)
/-- All of a source behind a row. -/
theorem appAllW {α : Type} {R : World → α → List Value → Prop} {k : Nat} {T : TypeId} {S : Nat → Prop} {lo g n cap : Nat} {w : World} {ps : List (α × List Value)} (h : OwnD R k T S lo w (.slice (some ⟨g, 0, none⟩) n cap) ps) (hlo : lo ≤ w.heap.size)
    (t : TypeId) (i : TypeInfo) (z : Value) (bytes : Nat) (ht : Tryz.prog.underlying t = some (.slice T)) (hi : Tryz.prog.info? T = some i) (hz : i.zero = some z) (hk : i.size = k) (hby : i.bytes = bytes) (hzs : z.cells.size = k) (hk0 : 0 < k) (hbb : bytes ≤ 1000)
    (aa : Option Addr) (c : Nat) (xs : List (α × List Value)) (hone : ∀ p ∈ xs, p.2.length = k ∧ ∀ u ∈ p.2, u.oneCell' = true) (hsrc : Srcs w aa xs) (hn : ps.length + xs.length ≤ 100000) (hels : ∀ p ∈ xs, KpD (OffD S (some g)) w (fun W => R W p.1 p.2)) :
    ∃ g' cap' w', (Builtin.append_ #[t, t] t #[.slice (some ⟨g, 0, none⟩) n cap, .slice aa xs.length c]).run Tryz.prog w = .ok (.slice (some ⟨g', 0, none⟩) (ps.length + xs.length) cap') w' ∧
      OwnD R k T S lo w' (.slice (some ⟨g', 0, none⟩) (ps.length + xs.length) cap') (ps ++ xs) ∧ w.grownBy w' (some g) ∧ (g' = g ∨ g' = w.heap.size) := by
  have hnn : n = ps.length := by
    rcases h.row.2 with ⟨e, _⟩ | ⟨g', cap', cur, e, _⟩
    · cases e
    · cases e; rfl
  subst hnn
  rcases hsrc with rfl | ⟨b, off, rfl, hc⟩
  · have hs : Go.Src Tryz.prog i.size t (.slice aa 0 c) 0 [] w := by
      cases aa with
      | none => exact Go.Src.ofNil w ht c
      | some ad => exact Go.Src.ofSlice w ht ad 0 c [] (by simp) (fun j u hu => by simp at hu) (fun u hu => by cases hu)
    have hcap : ps.length ≤ cap := by
      rcases h.row.2 with ⟨e, _⟩ | ⟨g', cap', cur, e, _, _, h5, _⟩
      · cases e
      · cases e; exact h5
    have := run_append_room_src (P := Tryz.prog) w t t t T i ht hi g 0 ps.length cap (.slice aa 0 c) 0 [] hs (by omega) (fun j hj => by simp at hj) (fun j hj => by simp at hj)
    refine ⟨g, cap, w, by simpa [World.setCells] using this, by simpa using h, ⟨rfl, rfl, rfl, Nat.le_refl _, fun _ _ _ => rfl⟩, .inl rfl⟩
  · by_cases h0 : xs = []
    · subst h0
      have hs : Go.Src Tryz.prog i.size t (.slice (some ⟨b, off, none⟩) 0 c) 0 [] w := Go.Src.ofSlice w ht ⟨b, off, none⟩ 0 c [] (by simp) (fun j u hu => by simp at hu) (fun u hu => by cases hu)
      have hcap : ps.length ≤ cap := by
        rcases h.row.2 with ⟨e, _⟩ | ⟨g', cap', cur, e, _, _, h5, _⟩
        · cases e
        · cases e; exact h5
      have := run_append_room_src (P := Tryz.prog) w t t t T i ht hi g 0 ps.length cap (.slice (some ⟨b, off, none⟩) 0 c) 0 [] hs (by omega) (fun j hj => by simp at hj) (fun j hj => by simp at hj)
      refine ⟨g, cap, w, by simpa [World.setCells] using this, by simpa using h, ⟨rfl, rfl, rfl, Nat.le_refl _, fun _ _ _ => rfl⟩, .inl rfl⟩
    · obtain ⟨g', cap', w', r, o, y, l⟩ := h.moreW hlo t i z bytes ht hi hz hk hby hzs hk0 hbb ⟨b, off, none⟩ c xs (List.length_pos_iff.2 h0) hone (fun j u hu => by rw [Addr.add_lit]; exact hc j u hu) hn hels
      refine ⟨g', cap', w', r, o, y, ?_⟩
      rcases l with l | l
      · exact .inl (Option.some.inj (show some g = some g' from l)).symm
      · exact .inr l

/-- A world with one block emptied. -/
def wipeK (w : World) (b : Nat) : World := { w with heap := w.heap.setIfInBounds b (.cells #[] 0) }
theorem wipeK_cell (w : World) (b o : Nat) : (wipeK w b).cell? ⟨b, o, none⟩ = none := by
  unfold World.cell? wipeK
  by_cases h : b < w.heap.size
  · simp [h]
  · simp [h]
theorem wipeK_stay {S : Nat → Prop} {w : World} {b : Nat} (h : ¬ S b) : StayD S w (wipeK w b) := by
  refine ⟨by simp [wipeK], fun c _ hs => ?_⟩
  have hne : b ≠ c := fun e => h (e ▸ hs)
  simp [wipeK, hne]
theorem list_ofK {α : Type} (n : Nat) (p : Nat → α → Prop) (h : ∀ i, i < n → ∃ e, p i e) : ∃ l : List α, l.length = n ∧ ∀ i (hi : i < l.length), p i l[i] := by
  refine ⟨List.ofFn (fun i : Fin n => Classical.choose (h i.1 i.2)), by simp, fun i hi => ?_⟩
  rw [List.getElem_ofFn]
  exact Classical.choose_spec (h i (by simpa using hi))
/-- The kids of an expression that stays: their cells, where these lie, and that each stays. -/
theorem kids_elts {S : Nat → Prop} {h : Nat} {w : World} {a : Option Addr} {kids : List TE} (hk : KpD S w (fun W => IsKids (IsE W 0 W.heap.size h) W 0 W.heap.size a kids)) :
    ∃ ps : List (TE × List Value), ps.map Prod.fst = kids ∧ (∀ p ∈ ps, p.2.length = 5 ∧ ∀ u ∈ p.2, u.oneCell' = true) ∧ Srcs w a ps ∧ ∀ p ∈ ps, KpD S w (fun W => EltE h W p.1 p.2) := by
  by_cases h0 : kids = []
  · subst h0
    exact ⟨[], rfl, fun p hp => absurd hp List.not_mem_nil, .inl rfl, fun p hp => absurd hp List.not_mem_nil⟩
  rcases hk.now with e | ⟨b, off, rfl, _, hb, hc⟩
  · exact absurd e h0
  have hS : S b := by
    apply Classical.byContradiction
    intro hn
    rcases hk _ (wipeK_stay hn) with e | ⟨b', off', e, _, _, hc'⟩
    · exact h0 e
    · simp only [Option.some.injEq, Addr.mk.injEq, and_true] at e
      obtain ⟨rfl, rfl⟩ := e
      obtain ⟨c0, _, _, _, _, d0, _⟩ := hc' 0 (List.length_pos_iff.2 h0)
      rw [wipeK_cell] at d0
      cases d0
  obtain ⟨ps, hl, hps⟩ := list_ofK kids.length (fun i (e : TE × List Value) => (∃ hi : i < kids.length, e.1 = kids[i]) ∧ (e.2.length = 5 ∧ ∀ u ∈ e.2, u.oneCell' = true) ∧ (∀ t, t < 5 → w.cell? ⟨b, off + i * 5 + t, none⟩ = e.2[t]?) ∧ KpD S w (fun W => EltE h W e.1 e.2)) (fun i hi => by
    obtain ⟨c0, c1, c2, c3, c4, d0, d1, d2, d3, d4, hr⟩ := hc i hi
    refine ⟨(kids[i], [c0, c1, c2, c3, c4]), ⟨hi, rfl⟩, ⟨rfl, fun u hu => ?_⟩, fun t ht => ?_, fun W hW => ?_⟩
    · obtain ⟨k, m, nm, md, sa, l, c, hv⟩ := IsE.five hr
      simp only [Value.agg.injEq, Array.mk.injEq, List.cons.injEq, and_true] at hv
      obtain ⟨rfl, rfl, rfl, rfl, rfl⟩ := hv
      simp only [List.mem_cons, List.not_mem_nil, or_false] at hu
      rcases hu with rfl | rfl | rfl | rfl | rfl <;> rfl
    · have h5 : t = 0 ∨ t = 1 ∨ t = 2 ∨ t = 3 ∨ t = 4 := by omega
      rcases h5 with rfl | rfl | rfl | rfl | rfl
      · exact d0
      · exact d1
      · exact d2
      · exact d3
      · exact d4
    · rcases hk W hW with e | ⟨b', off', e, _, _, hc'⟩
      · exact absurd e h0
      simp only [Option.some.injEq, Addr.mk.injEq, and_true] at e
      obtain ⟨rfl, rfl⟩ := e
      obtain ⟨x0, x1, x2, x3, x4, y0, y1, y2, y3, y4, hr'⟩ := hc' i hi
      have hx : ∀ o, W.cell? ⟨b, o, none⟩ = w.cell? ⟨b, o, none⟩ := fun o => World.cell?_of_block (w := w) (a := ⟨b, o, none⟩) (hW.2 b hb hS)
      rw [hx, d0] at y0; cases y0
      rw [hx, d1] at y1; cases y1
      rw [hx, d2] at y2; cases y2
      rw [hx, d3] at y3; cases y3
      rw [hx, d4] at y4; cases y4
      exact EltE.of hr')
  have hone : ∀ p ∈ ps, p.2.length = 5 ∧ ∀ u ∈ p.2, u.oneCell' = true := fun p hp => by
    obtain ⟨i, hi, rfl⟩ := List.getElem_of_mem hp
    exact (hps i hi).2.1
  refine ⟨ps, ?_, hone, .inr ⟨b, off, rfl, fun j u hu => ?_⟩, fun p hp => ?_⟩
  · apply List.ext_getElem
    · simpa using hl
    · intro i h1 h2
      rw [List.getElem_map]
      obtain ⟨⟨_, e⟩, _⟩ := hps i (by simpa using h1)
      exact e
  · have hlen := flat_len hone
    have hj : j < ps.length * 5 := by rw [← hlen]; exact (List.getElem?_eq_some_iff.1 hu).1
    have hq : j / 5 < ps.length := Nat.div_lt_of_lt_mul (by rw [Nat.mul_comm]; exact hj)
    have hm : j % 5 < 5 := Nat.mod_lt _ (by omega)
    have he : j / 5 * 5 + j % 5 = j := by omega
    have h1 := flat_at hone (j / 5) hq (j % 5) hm
    rw [he, hu] at h1
    have h2 := (hps (j / 5) hq).2.2.1 (j % 5) hm
    rw [show off + j / 5 * 5 + j % 5 = off + j by omega] at h2
    rw [h2, ← h1]
  · obtain ⟨i, hi, rfl⟩ := List.getElem_of_mem hp
    exact (hps i hi).2.2.2
theorem OwnD.mapK {α : Type} {R R' : World → α → List Value → Prop} {k : Nat} {T : TypeId} {S : Nat → Prop} {lo : Nat} {w : World} {v : Value} {ps : List (α × List Value)} (h : OwnD R k T S lo w v ps) (hR : ∀ W x C, R W x C → R' W x C) : OwnD R' k T S lo w v ps := ⟨h.row, h.one, fun p hp => (h.els p hp).imp (fun W hW => hR W _ _ hW)⟩
theorem EltE.upsK {h h' : Nat} (hh : h ≤ h') {W : World} {x : TE} {C : List Value} (hE : EltE h W x C) : EltE h' W x C := by
  obtain ⟨c0, c1, c2, c3, c4, e, hF⟩ := hE
  exact ⟨c0, c1, c2, c3, c4, e, hF.ups hh⟩
theorem wtL_setK : ∀ (l : List TE) (k : Nat) (hk : k < l.length) (x : TE), wtL (l.set k x) + l[k].wt = wtL l + x.wt
  | [], _, hk, _ => by simp at hk
  | y :: t, 0, _, x => by simp only [List.set_cons_zero, wtL, List.getElem_cons_zero]; omega
  | y :: t, k + 1, hk, x => by
    have := wtL_setK t k (by simpa using hk) x
    simp only [List.set_cons_succ, wtL, List.getElem_cons_succ]; omega
theorem wtL_memK : ∀ (l : List TE) (k : Nat) (hk : k < l.length), l[k].wt ≤ wtL l
  | [], _, hk => by simp at hk
  | y :: t, 0, _ => by simp only [wtL, List.getElem_cons_zero]; omega
  | y :: t, k + 1, hk => by
    have := wtL_memK t k (by simpa using hk)
    simp only [wtL, List.getElem_cons_succ]; omega

theorem rowK {S : Nat → Prop} {h : Nat} {w WS : World} (hs : WS.heap.size = w.heap.size) (ps : List (TE × List Value)) (T : TypeId) (hS : S w.heap.size) (h5 : ∀ p ∈ ps, p.2.length = 5 ∧ ∀ u ∈ p.2, u.oneCell' = true) (he : ∀ p ∈ ps, KpD S WS (fun W => EltE h W p.1 p.2)) :
    KpD S (WS.alloc (.cells ((ps.map Prod.snd).flatten).toArray T)) (fun W => IsKids (IsE W 0 W.heap.size h) W 0 W.heap.size (some ⟨w.heap.size, 0, none⟩) (ps.map Prod.fst)) := by
  rw [← hs] at hS ⊢
  exact lit_alloc ps T hS h5 he
/-- The kids of an expression, copied into a row of their own. -/
theorem copyK {S : Nat → Prop} {h B len cap N p q : Nat} {a0 a : Option Addr} {w0 w : World} {kids : List TE} (hk : KpD S w (fun W => IsKids (IsE W 0 W.heap.size h) W 0 W.heap.size a kids)) (c : Nat) (hn : kids.length ≤ 90000) (hR : RdM B a0 len cap N w0 w p q) (hB : B < w0.heap.size) :
    ∃ (g c7 : Nat) (W7 : World) (ps : List (TE × List Value)), ps.map Prod.fst = kids ∧ (Builtin.append_ #[25, 25] 25 #[.slice (some ⟨w.heap.size, 0, none⟩) 0 0, .slice a kids.length c]).run Tryz.prog (w.alloc (.cells #[] 31)) = .ok (.slice (some ⟨g, 0, none⟩) kids.length c7) W7 ∧
      OwnD (EltE h) 5 31 (fun b => S b ∨ w.heap.size ≤ b) w.heap.size W7 (.slice (some ⟨g, 0, none⟩) kids.length c7) ps ∧ RdM B a0 len cap N w0 W7 p q ∧ Below w.heap.size w W7 := by
  obtain ⟨ps, hf, h5, hs, he⟩ := kids_elts hk
  have hl : ps.length = kids.length := by rw [← hf, List.length_map]
  obtain ⟨ie, hei, hez0, hez1, hez2⟩ := info_parts infoE
  have hst : ∀ S' : Nat → Prop, StayD S' w (w.alloc (.cells #[] 31)) := fun S' => StayD.below (below_one w _)
  have hsrc : Srcs (w.alloc (.cells #[] 31)) a ps := by
    rcases hs with e | ⟨b, off, ha, hc⟩
    · exact .inl e
    · exact .inr ⟨b, off, ha, fun j u hu => by
        have h1 := hc j u hu
        have hb : b < w.heap.size := by
          apply Classical.byContradiction
          intro hn
          unfold World.cell? at h1
          rw [Array.getElem?_eq_none (by show w.heap.size ≤ b; omega)] at h1
          cases h1
        exact ((below_one w (.cells #[] 31)).cell (p := ⟨b, off + j, none⟩) hb).trans h1⟩
  obtain ⟨g, c7, W7, r, o, y, -⟩ := appAllW (OwnD.made (EltE h) 5 31 (fun b => S b ∨ w.heap.size ≤ b) w) (by rw [alloc_size]; omega) 25 ie _ 72 Tryz.underlying25 hei hez0 hez1 hez2 rfl (by omega) (by omega) a c ps h5 hsrc (by rw [List.length_nil]; omega) (fun x hx => ((he x hx).less (fun b hb h => ⟨.inl h, fun e => by have e' := Option.some.inj e; omega⟩)).stay (hst _))
  simp only [List.length_nil, Nat.zero_add, List.nil_append, hl] at r o
  refine ⟨g, c7, W7, ps, hf, r, o, (hR.alloc hB _).grown (v := .slice (some ⟨w.heap.size, 0, none⟩) 0 0) hB y (fun k hk => by have : w.heap.size = k := Option.some.inj hk; have := hR.size; omega), ?_⟩
  have hb7 : Below w.heap.size w W7 := (below_one w (.cells #[] 31)).grown y (by rw [alloc_size]; omega) (fun k hk => by have : w.heap.size = k := Option.some.inj hk; omega)
  exact hb7

theorem keepE_nodeW {S : Nat → Prop} {h : Nat} {w : World} {k m : Int} {nm md : ByteArray} {a : Option Addr} {cap n : Nat} {kids : List TE} (hk : KpD S w (fun W => IsKids (IsE W 0 W.heap.size h) W 0 W.heap.size a kids)) (hn : kids.length = n) (hn2 : n ≤ 100000) (h1 : nm.size ≤ 100000) (h2 : md.size ≤ 100000) :
    KeepE S (h + 1) w (.agg #[.int .i64 k, .int .i64 m, .string nm, .string md, .slice a n cap]) (.node k m nm md kids) := by
  intro _ hW
  subst hn
  exact ⟨a, cap, rfl, by unfold maxLen; omega, hk _ hW⟩
/-- A row of one expression that lies in a block that stays. -/
theorem kidRow {S : Nat → Prop} {h g : Nat} {w : World} {c0 c1 c2 c3 c4 : Value} {e : TE} (hb : Blk w g [c0, c1, c2, c3, c4]) (hg : g < w.heap.size) (hS : S g) (he : KeepE S h w (.agg #[c0, c1, c2, c3, c4]) e) :
    KpD S w (fun W => IsKids (IsE W 0 W.heap.size h) W 0 W.heap.size (some ⟨g, 0, none⟩) [e]) := by
  intro W hW
  have hB : Blk W g [c0, c1, c2, c3, c4] := hb.ofb (hW.2 g hg hS)
  refine .inr ⟨g, 0, rfl, Nat.zero_le _, Nat.lt_of_lt_of_le hg hW.1, fun j hj => ?_⟩
  have hj0 : j = 0 := by simp at hj; exact hj
  subst hj0
  refine ⟨c0, c1, c2, c3, c4, ?_, ?_, ?_, ?_, ?_, he W hW⟩
  · exact hB.1 0
  · exact hB.1 1
  · exact hB.1 2
  · exact hB.1 3
  · exact hB.1 4
end Go.Proofs.YtffabnmgcicpiaaGreat
