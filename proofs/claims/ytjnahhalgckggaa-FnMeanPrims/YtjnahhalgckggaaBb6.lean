/- Rows of drawn values that append makes. Conditions: the rows are not too long. -/
import Derived.Test.YtjnahhalgckggaaBa6
import Derived.Deep.AppendLies
namespace Go.Proofs.Ytjnahhalgckggaa
open Go.RowKit Go.PlainAid

/-- A drawn value and its row: all that it has lies in blocks from lo on, none of it in a block. -/
def IsElt (w : World) (lo : Nat) (g : Option Nat) (p : MV × Value) : Prop := Gd p.1 ∧ ∃ (a : Option Addr) (c : Nat), p.2 = .slice a p.1.row.length c ∧ (p.1.row = [] ∨ ∃ b off : Nat, a = some ⟨b, off, none⟩ ∧ lo ≤ b ∧ b < w.heap.size ∧ some b ≠ g ∧ ∀ j (hj : j < p.1.row.length), w.cell? ⟨b, off + j, none⟩ = some (.int .i64 p.1.row[j]))
def flatV (ps : List (MV × Value)) : List Value := ps.flatMap fun p => [.int .i64 p.1.kind, .int .i64 p.1.num, p.2]
theorem flatV_len (ps : List (MV × Value)) : (flatV ps).length = ps.length * 3 := by
  induction ps with
  | nil => rfl
  | cons x t ih => simp only [flatV, List.flatMap_cons, List.length_append, List.length_cons, List.length_nil] at ih ⊢; omega
theorem flatV_snoc (ps : List (MV × Value)) (p : MV × Value) : flatV (ps ++ [p]) = flatV ps ++ [.int .i64 p.1.kind, .int .i64 p.1.num, p.2] := by simp [flatV]
theorem flatV_at (ps : List (MV × Value)) : ∀ (j : Nat) (hj : j < ps.length), (flatV ps)[j * 3]? = some (.int .i64 ps[j].1.kind) ∧ (flatV ps)[j * 3 + 1]? = some (.int .i64 ps[j].1.num) ∧ (flatV ps)[j * 3 + 2]? = some ps[j].2 := by
  induction ps with
  | nil => intro j hj; simp at hj
  | cons x t ih =>
    intro j hj
    cases j with
    | zero => simp [flatV]
    | succ j =>
      obtain ⟨h1, h2, h3⟩ := ih j (by simpa using hj)
      have e : flatV (x :: t) = [.int .i64 x.1.kind, .int .i64 x.1.num, x.2] ++ flatV t := by simp [flatV]
      have h0 : ∀ i, (flatV (x :: t))[i + 3]? = (flatV t)[i]? := fun i => by rw [e, List.getElem?_append_right (by simp)]; simp
      have e1 : (j + 1) * 3 = j * 3 + 3 := by omega
      have e2 : (j + 1) * 3 + 1 = (j * 3 + 1) + 3 := by omega
      have e3 : (j + 1) * 3 + 2 = (j * 3 + 2) + 3 := by omega
      refine ⟨?_, ?_, ?_⟩
      · rw [e1, h0, h1]; rfl
      · rw [e2, h0, h2]; rfl
      · rw [e3, h0, h3]; rfl
theorem flatV_one (ps : List (MV × Value)) (w : World) (lo : Nat) (g : Option Nat) (h : ∀ p ∈ ps, IsElt w lo g p) : ∀ u ∈ flatV ps, u.oneCell' = true := by
  intro u hu
  unfold flatV at hu
  rw [List.mem_flatMap] at hu
  obtain ⟨p, hp, hu⟩ := hu
  obtain ⟨_, a, c, e, _⟩ := h p hp
  simp only [List.mem_cons, List.not_mem_nil, or_false] at hu
  rcases hu with rfl | rfl | rfl
  · rfl
  · rfl
  · rw [e]; rfl
theorem IsElt.grown {w w' : World} {lo : Nat} {g g' : Option Nat} {p : MV × Value} (h : IsElt w lo g p) (hg : w.grownBy w' g) (hgg : g' = g ∨ ∃ H, g' = some H ∧ w.heap.size ≤ H) : IsElt w' lo g' p := by
  obtain ⟨hd, a, c, e, h⟩ := h
  refine ⟨hd, a, c, e, ?_⟩
  rcases h with h | ⟨b, off, h1, h2, h3, h4, h5⟩
  · exact .inl h
  · refine .inr ⟨b, off, h1, h2, Nat.lt_of_lt_of_le h3 hg.size, ?_, fun j hj => (hg.cell_far ⟨b, off + j, none⟩ h3 h4).trans (h5 j hj)⟩
    rcases hgg with e | ⟨H, e, hH⟩
    · rw [e]; exact h4
    · rw [e]; intro k; have := Option.some.inj k; omega
theorem IsElt.kept {w w' : World} {lo : Nat} {g : Option Nat} {p : MV × Value} (h : IsElt w lo g p) (hb : ∀ b, lo ≤ b → b < w.heap.size → w'.heap[b]? = w.heap[b]?) (hs : w.heap.size ≤ w'.heap.size) : IsElt w' lo g p := by
  obtain ⟨hd, a, c, e, h⟩ := h
  refine ⟨hd, a, c, e, ?_⟩
  rcases h with h | ⟨b, off, h1, h2, h3, h4, h5⟩
  · exact .inl h
  · exact .inr ⟨b, off, h1, h2, Nat.lt_of_lt_of_le h3 hs, h4, fun j hj => (World.cell?_of_block (w := w) (a := ⟨b, off + j, none⟩) (hb b h2 h3)).trans (h5 j hj)⟩
/-- A row of drawn values that append makes. -/
structure OwnV (w : World) (lo : Nat) (v : Value) (ps : List (MV × Value)) : Prop where
  row : w.ownsRow lo 28 3 v ps.length (flatV ps)
  els : ∀ p ∈ ps, IsElt w lo v.ownBlock p
theorem own_far {w w' : World} {base : Nat} {e : TypeId} {s : Nat} {v : Value} {n : Nat} {xs : List Value} (h : w.ownsRow base e s v n xs) (hb : ∀ g, v.ownBlock = some g → w'.heap[g]? = w.heap[g]?) : w'.ownsRow base e s v n xs := by
  obtain ⟨h1, h2⟩ := h
  refine ⟨h1, ?_⟩
  rcases h2 with h2 | ⟨g, cap, cur, rfl, h3, h4, h5⟩
  · exact .inl h2
  · exact .inr ⟨g, cap, cur, rfl, h3, (hb g rfl).trans h4, h5⟩
theorem OwnV.kept {w w' : World} {lo : Nat} {v : Value} {ps : List (MV × Value)} (h : OwnV w lo v ps) (hb : ∀ b, lo ≤ b → b < w.heap.size → w'.heap[b]? = w.heap[b]?) (hs : w.heap.size ≤ w'.heap.size) : OwnV w' lo v ps :=
  ⟨own_far h.row (fun g hg => hb g (h.row.lt g hg).1 (h.row.lt g hg).2), fun p hp => (h.els p hp).kept hb hs⟩
theorem OwnV.moved {B : Nat} {w w' : World} {lo : Nat} {v : Value} {ps : List (MV × Value)} (h : OwnV w lo v ps) (hm : MovedG B w w') (hB : B < lo) : OwnV w' lo v ps := h.kept (fun b h1 h2 => hm.2 b h2 (by omega)) hm.1.size
/-- One more. -/
theorem OwnV.app {w : World} {lo : Nat} {v : Value} {ps : List (MV × Value)} (h : OwnV w lo v ps) (hlo : lo ≤ w.heap.size) (hn : ps.length ≤ 100) (x : MV × Value) (hx : IsElt w lo v.ownBlock x) :
    ∃ g cap w', (Builtin.append_ #[23, 23] 23 #[v, .slice (some ⟨w.heap.size, 0, none⟩) 1 1]).run Try.prog (w.alloc (.cells #[.int .i64 x.1.kind, .int .i64 x.1.num, x.2] 28)) = .ok (.slice (some ⟨g, 0, none⟩) (ps.length + 1) cap) w' ∧ OwnV w' lo (.slice (some ⟨g, 0, none⟩) (ps.length + 1) cap) (ps ++ [x]) ∧ (w.alloc (.cells #[.int .i64 x.1.kind, .int .i64 x.1.num, x.2] 28)).grownBy w' v.ownBlock := by
  obtain ⟨i0, hi, hz0, hz1, hz2⟩ := info_parts infoMv
  obtain ⟨hgd, xa, xc, hxe, hxr⟩ := hx
  obtain ⟨g, cap, w', hr, h2, h3, h4, h5⟩ := run_append_lies (P := Try.prog) (w.alloc (.cells #[.int .i64 x.1.kind, .int .i64 x.1.num, x.2] 28)) 23 23 lo 28 i0 _ 3 40 Try.underlying23 hi hz0 hz1 hz2 rfl (by omega) v ps.length (flatV ps) (h.row.alloc _) ⟨w.heap.size, 0, none⟩ 1 1 [.int .i64 x.1.kind, .int .i64 x.1.num, x.2] (by simp) (fun j u hu => by
      have hj : j < 3 := by rcases Nat.lt_or_ge j 3 with g | g; exact g; rw [List.getElem?_eq_none (by simpa using g)] at hu; cases hu
      rw [Addr.add_lit, Nat.zero_add, alloc_cell]
      rw [← hu]
      simp) (fun u hu => by
      simp only [List.mem_cons, List.not_mem_nil, or_false] at hu
      rcases hu with rfl | rfl | rfl
      · rfl
      · rfl
      · rw [hxe]; rfl) (by omega) (by unfold maxLen; omega) (by omega) (by rw [alloc_size]; omega) _ rfl
  have hgg : (Value.slice (some ⟨g, 0, none⟩) (ps.length + 1) cap).ownBlock = v.ownBlock ∨ ∃ H, (Value.slice (some ⟨g, 0, none⟩) (ps.length + 1) cap).ownBlock = some H ∧ (w.alloc (.cells #[.int .i64 x.1.kind, .int .i64 x.1.num, x.2] 28)).heap.size ≤ H := by
    rcases h4 with h4 | h4
    · exact .inl h4.symm
    · exact .inr ⟨g, rfl, by rw [h4]; exact Nat.le_refl _⟩
  refine ⟨g, cap, w', hr, ⟨?_, fun p hp => ?_⟩, h3⟩
  · rw [List.length_append, flatV_snoc]
    exact h2
  · have hal : ∀ b, lo ≤ b → b < w.heap.size → (w.alloc (.cells #[.int .i64 x.1.kind, .int .i64 x.1.num, x.2] 28)).heap[b]? = w.heap[b]? := fun b _ hb => (below_new w _).block b hb
    rcases List.mem_append.1 hp with hp | hp
    · exact ((h.els p hp).kept hal (by simp)).grown h3 hgg
    · rw [List.mem_singleton] at hp
      subst hp
      exact (IsElt.kept (show IsElt w lo v.ownBlock p from ⟨hgd, xa, xc, hxe, hxr⟩) hal (by simp)).grown h3 hgg
/-- Drawn values that can be read. -/
def DVals (w : World) (a : Option Addr) (xs : List MV) : Prop := Mvs w 0 a xs ∧ ∀ x ∈ xs, Gd x
theorem dv_of {w : World} {lo : Nat} {gg : Option Nat} (g off : Nat) (ps : List (MV × Value)) (hg : g < w.heap.size) (hc : ∀ j (hj : j < ps.length), w.cell? ⟨g, off + j * 3, none⟩ = some (.int .i64 ps[j].1.kind) ∧ w.cell? ⟨g, off + j * 3 + 1, none⟩ = some (.int .i64 ps[j].1.num) ∧ w.cell? ⟨g, off + j * 3 + 2, none⟩ = some ps[j].2) (he : ∀ p ∈ ps, IsElt w lo gg p) : DVals w (some ⟨g, off, none⟩) (ps.map Prod.fst) := by
  refine ⟨⟨.inr ⟨g, off, rfl, Nat.zero_le _, hg, fun j hj => ?_⟩, fun x hx => ?_⟩, fun x hx => ?_⟩
  · have hj' : j < ps.length := by simpa using hj
    obtain ⟨h1, h2, h3⟩ := hc j hj'
    obtain ⟨hd, a, c, e, hr⟩ := he _ (List.getElem_mem hj')
    refine ⟨_, _, _, h1, h2, h3, ?_⟩
    rw [List.getElem_map, e]
    refine ⟨a, c, rfl, by unfold maxLen; exact Nat.le_trans hd.2.2 (by decide), ?_⟩
    rcases hr with hr | ⟨b, o, k1, k2, k3, k4, k5⟩
    · exact .inl hr
    · exact .inr ⟨b, o, k1, Nat.zero_le _, k3, k5⟩
  · obtain ⟨p, hp, rfl⟩ := List.mem_map.1 hx
    exact Nat.le_trans (he p hp).1.2.2 (by decide)
  · obtain ⟨p, hp, rfl⟩ := List.mem_map.1 hx
    exact (he p hp).1
theorem OwnV.len {w : World} {lo : Nat} {v : Value} {ps : List (MV × Value)} (h : OwnV w lo v ps) : ∃ (a : Option Addr) (cap : Nat), v = .slice a ps.length cap := by
  rcases h.row.2 with ⟨rfl, h0⟩ | ⟨g, cap, cur, rfl, _⟩
  · exact ⟨none, 0, by rw [h0]⟩
  · exact ⟨_, cap, rfl⟩
theorem OwnV.cells {w : World} {lo : Nat} {g n cap : Nat} {ps : List (MV × Value)} (h : OwnV w lo (.slice (some ⟨g, 0, none⟩) n cap) ps) (j : Nat) (hj : j < ps.length) : w.cell? ⟨g, j * 3, none⟩ = some (.int .i64 ps[j].1.kind) ∧ w.cell? ⟨g, j * 3 + 1, none⟩ = some (.int .i64 ps[j].1.num) ∧ w.cell? ⟨g, j * 3 + 2, none⟩ = some ps[j].2 := by
  obtain ⟨h1, h2, h3⟩ := flatV_at ps j hj
  have hc := h.row.cells (g := g) rfl
  refine ⟨?_, ?_, ?_⟩
  · have := hc _ _ h1; rwa [Addr.add_lit, Nat.zero_add] at this
  · have := hc _ _ h2; rwa [Addr.add_lit, Nat.zero_add] at this
  · have := hc _ _ h3; rwa [Addr.add_lit, Nat.zero_add] at this
theorem OwnV.dv {w : World} {lo : Nat} {a : Option Addr} {n cap : Nat} {ps : List (MV × Value)} (h : OwnV w lo (.slice a n cap) ps) : DVals w a (ps.map Prod.fst) := by
  by_cases h0 : ps = []
  · subst h0
    exact ⟨⟨.inl rfl, fun x hx => absurd hx (by simp)⟩, fun x hx => absurd hx (by simp)⟩
  have hpos : 0 < ps.length := List.length_pos_iff.2 h0
  rcases h.row.2 with ⟨_, h1⟩ | ⟨g, cap', cur, hv, _⟩
  · omega
  simp only [Value.slice.injEq] at hv
  obtain ⟨rfl, rfl, rfl⟩ := hv
  refine dv_of g 0 ps (h.row.lt g rfl).2 (fun j hj => ?_) h.els
  rw [Nat.zero_add]
  exact h.cells j hj
theorem DVals.kept {w w' : World} {a : Option Addr} {xs : List MV} (h : DVals w a xs) (hb : Below w.heap.size w w') : DVals w' a xs := ⟨h.1.kept hb, h.2⟩
/-- One more behind all but the first. -/
theorem OwnV.cut {w : World} {lo : Nat} {g n cap : Nat} {ps : List (MV × Value)} (h : OwnV w lo (.slice (some ⟨g, 0, none⟩) n cap) ps) (hn0 : 1 ≤ n) (hn : n ≤ 100) (o : Nat) (ho : o = 3 ∨ cap = 1) (x : MV × Value) (hx : IsElt w lo (some g) x) :
    ∃ a' c' w', (Builtin.append_ #[23, 23] 23 #[.slice (some ⟨g, o, none⟩) (n - 1) (cap - 1), .slice (some ⟨w.heap.size, 0, none⟩) 1 1]).run Try.prog (w.alloc (.cells #[.int .i64 x.1.kind, .int .i64 x.1.num, x.2] 28)) = .ok (.slice a' n c') w' ∧ DVals w' a' ((ps.drop 1 ++ [x]).map Prod.fst) ∧ Below lo w w' := by
  obtain ⟨i0, hi, hz0, hz1, hz2⟩ := info_parts infoMv
  have hx' := hx
  obtain ⟨hgd, xa, xc, hxe, hxr⟩ := hx
  have hgl := h.row.lt g rfl
  obtain ⟨W, hW⟩ : ∃ W, W = w.alloc (.cells #[.int .i64 x.1.kind, .int .i64 x.1.num, x.2] 28) := ⟨_, rfl⟩
  have hWS : W.heap.size = w.heap.size + 1 := by rw [hW]; simp
  have hal : ∀ b, lo ≤ b → b < w.heap.size → W.heap[b]? = w.heap[b]? := fun b _ hb => by rw [hW]; exact (below_new w _).block b hb
  have hV := h.kept hal (by omega)
  have hX := hx'.kept hal (by omega)
  have hbW : Below lo w W := by rw [hW]; exact (below_new w _).mono (by omega)
  have hs : Go.Src Try.prog i0.size 23 (.slice (some ⟨w.heap.size, 0, none⟩) 1 1) 1 [.int .i64 x.1.kind, .int .i64 x.1.num, x.2] W := Go.Src.ofSlice W Try.underlying23 ⟨w.heap.size, 0, none⟩ 1 1 [.int .i64 x.1.kind, .int .i64 x.1.num, x.2] (by rw [hz1]; simp) (fun j u hu => by
      rw [Addr.add_lit, Nat.zero_add, hW, alloc_cell]
      rw [← hu]
      simp) (fun u hu => by
      simp only [List.mem_cons, List.not_mem_nil, or_false] at hu
      rcases hu with rfl | rfl | rfl
      · rfl
      · rfl
      · rw [hxe]; rfl)
  rw [← hW]
  have hrow := hV.row.2
  rcases hrow with ⟨hbad, _⟩ | ⟨g', cap', cur, hv, hb, hg, hnc, hcm, hsz, htake⟩
  · cases hbad
  simp only [Value.slice.injEq, Option.some.injEq, Addr.mk.injEq] at hv
  obtain ⟨⟨rfl, -, -⟩, rfl, rfl⟩ := hv
  have hlen : (ps.drop 1 ++ [x]).length = ps.length := by simp; omega
  have hlast : ∀ j (hj : j < (ps.drop 1 ++ [x]).length), (∃ h : j + 1 < ps.length, (ps.drop 1 ++ [x])[j] = ps[j + 1]) ∨ (j + 1 = ps.length ∧ (ps.drop 1 ++ [x])[j] = x) := by
    intro j hj
    have hj2 := hj
    rw [hlen] at hj2
    by_cases e : j + 1 < ps.length
    · refine .inl ⟨e, ?_⟩
      rw [List.getElem_append_left (by simp; omega), List.getElem_drop]
      congr 1
      omega
    · refine .inr ⟨by omega, ?_⟩
      rw [List.getElem_append_right (by simp; omega)]
      simp
  have hmem : ∀ p ∈ ps.drop 1 ++ [x], p ∈ ps ∨ p = x := fun p hp => by
    rcases List.mem_append.1 hp with hp | hp
    · exact .inl (List.mem_of_mem_drop hp)
    · exact .inr (List.mem_singleton.1 hp)
  have hcur : ∀ k, k < cap * 3 → (W.cell? ⟨g, k, none⟩).isSome = true := fun k hk => by
    rw [World.cell?]
    simp [hg, hsz, hk]
  have hfz : ∀ k, W.frozen? ⟨g, k, none⟩ = false := fun k => by simp [World.frozen?, hg]
  have hm1 : ps.length - 1 + 1 = ps.length := by omega
  by_cases hroom : ps.length + 1 ≤ cap
  · obtain rfl : o = 3 := by omega
    have hoff : 3 + (ps.length - 1) * i0.size = ps.length * 3 := by rw [hz1]; omega
    have hr := run_append_room_src (P := Try.prog) W 23 23 23 28 i0 Try.underlying23 hi g 3 (ps.length - 1) (cap - 1) _ 1 _ hs (by omega) (fun j hj => by rw [hoff]; exact hcur _ (by simp at hj; omega)) (fun j _ => hfz _)
    rw [hoff, hm1] at hr
    have hput : W.setCells g (ps.length * 3) [.int .i64 x.1.kind, .int .i64 x.1.num, x.2] = put3 W g (ps.length * 3) (.int .i64 x.1.kind) (.int .i64 x.1.num) x.2 := rfl
    rw [hput] at hr
    refine ⟨_, _, _, hr, ?_, hbW.trans (put3_belowZ W g _ _ _ _ hb).toBelow⟩
    have hkp : ∀ b, b ≠ g → (put3 W g (ps.length * 3) (.int .i64 x.1.kind) (.int .i64 x.1.num) x.2).heap[b]? = W.heap[b]? := fun b hb => put3_heap _ _ _ _ _ _ b hb
    have hps := put3_size W g (ps.length * 3) (.int .i64 x.1.kind) (.int .i64 x.1.num) x.2
    obtain ⟨t0, t1, t2⟩ := put3_at W g (ps.length * 3) (.int .i64 x.1.kind) (.int .i64 x.1.num) x.2 (fun k h1 h2 => Option.isSome_iff_exists.1 (hcur k (by omega)))
    have hel : ∀ p, IsElt W lo (some g) p → IsElt (put3 W g (ps.length * 3) (.int .i64 x.1.kind) (.int .i64 x.1.num) x.2) lo (some g) p := by
      rintro p ⟨hd, a, c, e, h⟩
      refine ⟨hd, a, c, e, ?_⟩
      rcases h with h | ⟨b, off, h1, h2, h3, h4, h5⟩
      · exact .inl h
      · exact .inr ⟨b, off, h1, h2, by rw [hps]; exact h3, h4, fun j hj => (World.cell?_of_block (w := W) (a := ⟨b, off + j, none⟩) (hkp b (fun e => h4 (by rw [e])))).trans (h5 j hj)⟩
    refine dv_of (lo := lo) (gg := some g) g 3 _ (by rw [hps]; have := hgl.2; omega) (fun j hj => ?_) (fun p hp => ?_)
    · rcases hlast j hj with ⟨h1, e⟩ | ⟨h1, e⟩
      · rw [e]
        obtain ⟨k0, k1, k2⟩ := hV.cells (j + 1) h1
        have e1 : 3 + j * 3 = (j + 1) * 3 := by omega
        rw [e1]
        exact ⟨(put3_other _ _ _ _ _ _ _ (by omega)).trans k0, (put3_other _ _ _ _ _ _ _ (by omega)).trans k1, (put3_other _ _ _ _ _ _ _ (by omega)).trans k2⟩
      · rw [e]
        have e1 : 3 + j * 3 = ps.length * 3 := by omega
        rw [e1]
        exact ⟨t0, t1, t2⟩
    · rcases hmem p hp with hp | rfl
      · exact hel p (hV.els p hp)
      · exact hel p hX
  · have hol : ((flatV ps).drop 3).length = (ps.length - 1) * i0.size := by rw [List.length_drop, flatV_len, hz1]; omega
    have hc0 := hV.row.cells (g := g) rfl
    have hold := run_firstCells_some (P := Try.prog) W.drew i0.size (ps.length - 1) ⟨g, o, none⟩ (ps.length - 1) (cap - 1) ((flatV ps).drop 3) hol (fun j v hv => by
      have ho3 : o = 3 := by
        rcases ho with h | h
        · exact h
        · have : ((flatV ps).drop 3).length = 0 := by rw [hol]; have : ps.length - 1 = 0 := by omega
                                                      rw [this]; simp
          rw [List.getElem?_eq_none (by omega)] at hv
          cases hv
      subst ho3
      rw [List.getElem?_drop] at hv
      have := hc0 _ _ hv
      rw [Addr.add_lit, Nat.zero_add] at this
      rw [Addr.add_lit]
      exact this)
    have hr := run_append_grow_src (P := Try.prog) W 23 23 23 28 i0 _ Try.underlying23 hi hz0 (some ⟨g, o, none⟩) (ps.length - 1) (cap - 1) _ hold _ 1 _ hs (by omega) (by omega) (growslice_fits (by omega) (by rw [hz2]; omega))
    rw [hm1] at hr
    refine ⟨_, _, _, hr, ?_, hbW.trans ((Below.refl _ _).drew.alloc (by show lo ≤ W.heap.size; omega) _)⟩
    obtain ⟨C, hC⟩ : ∃ C, ((flatV ps).drop 3 ++ [.int .i64 x.1.kind, .int .i64 x.1.num, x.2]).toArray = C := ⟨_, rfl⟩
    have hCl : C = (flatV (ps.drop 1 ++ [x])).toArray := by
      rw [← hC, flatV_snoc]
      have e : (flatV ps).drop 3 = flatV (ps.drop 1) := by
        rcases ps with _ | ⟨y, t⟩
        · rfl
        · simp [flatV]
      rw [e]
    rw [hC, hCl]
    refine dv_of (lo := lo) (gg := none) W.heap.size 0 _ (by rw [alloc_size]; show W.heap.size < W.heap.size + 1; omega) (fun j hj => ?_) (fun p hp => ?_)
    · obtain ⟨k0, k1, k2⟩ := flatV_at (ps.drop 1 ++ [x]) j hj
      have hall : ∀ k u, (flatV (ps.drop 1 ++ [x]))[k]? = some u → ∀ Z, (W.drew.alloc (.cells ((flatV (ps.drop 1 ++ [x])).toArray ++ Z) 28)).cell? ⟨W.heap.size, k, none⟩ = some u := fun k u hu Z => by
        have := alloc_cell W.drew ((flatV (ps.drop 1 ++ [x])).toArray ++ Z) 28 k
        refine (show _ = _ from this).trans ?_
        have hk : k < (flatV (ps.drop 1 ++ [x])).length := by
          rcases Nat.lt_or_ge k (flatV (ps.drop 1 ++ [x])).length with g | g
          · exact g
          · rw [List.getElem?_eq_none g] at hu; cases hu
        rw [Array.getElem?_append_left (by simpa using hk)]
        simpa using hu
      rw [Nat.zero_add]
      exact ⟨hall _ _ k0 _, hall _ _ k1 _, hall _ _ k2 _⟩
    · have hh : ∀ p Z, IsElt W lo (some g) p → IsElt (W.drew.alloc (.cells Z 28)) lo none p := by
        rintro p Z ⟨hd, a, c, e, h⟩
        refine ⟨hd, a, c, e, ?_⟩
        rcases h with h | ⟨b, off, h1, h2, h3, h4, h5⟩
        · exact .inl h
        · refine .inr ⟨b, off, h1, h2, by rw [alloc_size]; show b < W.heap.size + 1; omega, by simp, fun j hj => ?_⟩
          exact ((below_new W.drew _).cell (p := ⟨b, off + j, none⟩) h3).trans (h5 j hj)
      rcases hmem p hp with hp | rfl
      · exact hh p _ (hV.els p hp)
      · exact hh p _ hX
end Go.Proofs.Ytjnahhalgckggaa
