/- Rows of drawn data: where append laid them, rows beside each other, an element that is turned. No conditions. -/
import Derived.Test.YtffabnmgcicpiaaGreatDp
import Derived.Laws.OwnMore
namespace Go.Proofs.YtffabnmgcicpiaaGreat
open Go.RowKit Go.PlainAid

/-- OwnD.more, and where the row lies behind it. -/
theorem OwnD.moreL {α : Type} {R : World → α → List Value → Prop} {k : Nat} {T : TypeId} {S : Nat → Prop} {lo : Nat} {w : World} {v : Value} {ps : List (α × List Value)} (h : OwnD R k T S lo w v ps) (hlo : lo ≤ w.heap.size)
    (t : TypeId) (i : TypeInfo) (z : Value) (bytes : Nat) (ht : Tryz.prog.underlying t = some (.slice T)) (hi : Tryz.prog.info? T = some i) (hz : i.zero = some z) (hk : i.size = k) (hby : i.bytes = bytes) (hzs : z.cells.size = k) (hk0 : 0 < k) (hbb : bytes ≤ 1000)
    (ad : Addr) (c : Nat) (xs : List (α × List Value)) (hx0 : 0 < xs.length) (hone : ∀ p ∈ xs, p.2.length = k ∧ ∀ u ∈ p.2, u.oneCell' = true)
    (hnews : ∀ j u, ((xs.map Prod.snd).flatten)[j]? = some u → w.cell? (ad.add j) = some u) (hn : ps.length + xs.length ≤ 10000) (hels : ∀ p ∈ xs, KpD (OffD S v.ownBlock) w (fun W => R W p.1 p.2)) :
    ∃ g cap w', (Builtin.append_ #[t, t] t #[v, .slice (some ad) xs.length c]).run Tryz.prog w = .ok (.slice (some ⟨g, 0, none⟩) (ps.length + xs.length) cap) w' ∧
      OwnD R k T S lo w' (.slice (some ⟨g, 0, none⟩) (ps.length + xs.length) cap) (ps ++ xs) ∧ w.grownBy w' v.ownBlock ∧ (v.ownBlock = some g ∨ g = w.heap.size) := by
  have hb2 : (ps.length + xs.length) * bytes ≤ 10000 * 1000 := Nat.mul_le_mul hn hbb
  obtain ⟨g, cap, w', hr, h2, h3, h4, h5⟩ := run_append_lies (P := Tryz.prog) (w := w) t t lo T i z k bytes ht hi hz hk hby hzs hk0 v ps.length _ h.row ad xs.length c _ (flat_len hone) hnews
    (fun u hu => by
      rw [List.mem_flatten] at hu
      obtain ⟨l, hl, hu⟩ := hu
      obtain ⟨p, hp, rfl⟩ := List.mem_map.1 hl
      exact (hone p hp).2 u hu) hx0 (by unfold maxLen; omega) (by omega) hlo _ rfl
  refine ⟨g, cap, w', hr, ⟨?_, ?_, ?_⟩, h3, h4⟩
  · rw [List.length_append, List.map_append, List.flatten_append]; exact h2
  · intro p hp
    rcases List.mem_append.1 hp with hp | hp
    · exact h.one p hp
    · exact hone p hp
  · have hall : ∀ p : α × List Value, KpD (OffD S v.ownBlock) w (fun W => R W p.1 p.2) → KpD (OffD S (Value.slice (some ⟨g, 0, none⟩) (ps.length + xs.length) cap).ownBlock) w' (fun W => R W p.1 p.2) := by
      intro p hp W hW
      refine hp W ⟨Nat.le_trans h3.size hW.1, fun b hb hs => (hW.2 b (Nat.lt_of_lt_of_le hb h3.size) ⟨hs.1, ?_⟩).trans (h3.block b hb hs.2)⟩
      intro e
      have e' : b = g := Option.some.inj (show some b = some g from e)
      rcases h4 with h4 | h4
      · exact hs.2 (by rw [h4, e'])
      · omega
    intro p hp
    rcases List.mem_append.1 hp with hp | hp
    · exact hall p (h.els p hp)
    · exact hall p (hels p hp)
theorem OwnD.staySub {α : Type} {R : World → α → List Value → Prop} {k : Nat} {T : TypeId} {S : Nat → Prop} {lo : Nat} {w w' : World} {v : Value} {ps : List (α × List Value)} (h : OwnD R k T S lo w v ps) (hs : StayD S w w') (hS : ∀ g, v.ownBlock = some g → S g) : OwnD R k T S lo w' v ps := by
  refine ⟨⟨h.row.1, ?_⟩, h.one, fun p hp => (h.els p hp).stay (hs.less (fun b _ hb => hb.1))⟩
  have hl := h.row.lt
  rcases h.row.2 with h2 | ⟨g, cap, cur, rfl, h3, h4, h5⟩
  · exact .inl h2
  · exact .inr ⟨g, cap, cur, rfl, h3, (hs.2 g (hl g rfl).2 (hS g rfl)).trans h4, h5⟩
/-- What stays may be told by other blocks, as long as no more of those that were there. -/
theorem OwnD.lessS {α : Type} {R : World → α → List Value → Prop} {k : Nat} {T : TypeId} {S S' : Nat → Prop} {lo : Nat} {w : World} {v : Value} {ps : List (α × List Value)} (h : OwnD R k T S lo w v ps) (hS : ∀ b, b < w.heap.size → S b → S' b) : OwnD R k T S' lo w v ps :=
  ⟨h.row, h.one, fun p hp => (h.els p hp).less (fun b hb h => ⟨hS b hb h.1, h.2⟩)⟩
/-- A row beside another one that has grown. -/
theorem OwnD.beside {α : Type} {R : World → α → List Value → Prop} {k : Nat} {T : TypeId} {S : Nat → Prop} {lo : Nat} {w w' : World} {v : Value} {ps : List (α × List Value)} {ob : Option Nat} {g' : Nat} (h : OwnD R k T (fun b => S b ∧ some b ≠ ob) lo w v ps) (hg : w.grownBy w' ob) (ho : ob = some g' ∨ w.heap.size ≤ g') (hv : ∀ g, v.ownBlock = some g → S g ∧ some g ≠ ob) :
    OwnD R k T (fun b => S b ∧ some b ≠ some g') lo w' v ps := by
  have h1 : OwnD R k T (fun b => S b ∧ some b ≠ ob) lo w' v ps := h.staySub ⟨hg.size, fun b hb hs => hg.block b hb hs.2⟩ hv
  have hl := h.row.lt
  refine ⟨h1.row, h1.one, fun p hp W hW => h.els p hp W ⟨Nat.le_trans hg.size hW.1, fun b hb hs => (hW.2 b (Nat.lt_of_lt_of_le hb hg.size) ⟨⟨hs.1.1, fun e => ?_⟩, hs.2⟩).trans (hg.block b hb hs.1.2)⟩⟩
  have e' := Option.some.inj e
  rcases ho with ho | ho
  · exact hs.1.2 (by rw [ho, e'])
  · omega
theorem flat_set {α : Type} {k : Nat} : ∀ {ps : List (α × List Value)}, (∀ p ∈ ps, p.2.length = k) → ∀ (j : Nat) (hj : j < ps.length) (i : Nat) (_ : i < k) (u : Value) (y : α), ((ps.map Prod.snd).flatten).set (j * k + i) u = ((ps.set j (y, ps[j].2.set i u)).map Prod.snd).flatten
  | [], _, j, hj, _, _, _, _ => by simp at hj
  | x :: t, h, 0, hj, i, hi, u, y => by
    have h1 := h x (by simp)
    simp only [Nat.zero_mul, Nat.zero_add, List.map_cons, List.flatten_cons, List.set_cons_zero, List.getElem_cons_zero]
    rw [List.set_append_left _ _ (by omega)]
  | x :: t, h, j + 1, hj, i, hi, u, y => by
    have h1 := h x (by simp)
    have ih := flat_set (ps := t) (fun p hp => h p (by simp [hp])) j (by simpa using hj) i hi u y
    simp only [List.map_cons, List.flatten_cons, List.set_cons_succ, List.getElem_cons_succ]
    rw [List.set_append_right _ _ (by rw [h1, Nat.add_mul]; omega), h1, show (j + 1) * k + i - k = j * k + i by rw [Nat.add_mul]; omega, ih]
/-- The cells of a row alone. -/
structure RowD {α : Type} (k : Nat) (T : TypeId) (lo : Nat) (w : World) (v : Value) (ps : List (α × List Value)) : Prop where
  row : w.ownsRow lo T k v ps.length (ps.map Prod.snd).flatten
  one : ∀ p ∈ ps, p.2.length = k ∧ ∀ u ∈ p.2, u.oneCell' = true
theorem OwnD.raw {α : Type} {R : World → α → List Value → Prop} {k : Nat} {T : TypeId} {S : Nat → Prop} {lo : Nat} {w : World} {v : Value} {ps : List (α × List Value)} (h : OwnD R k T S lo w v ps) : RowD k T lo w v ps := ⟨h.row, h.one⟩
theorem RowD.put {α : Type} {k : Nat} {T : TypeId} {lo g n cap : Nat} {w : World} {ps : List (α × List Value)} (h : RowD k T lo w (.slice (some ⟨g, 0, none⟩) n cap) ps) (j : Nat) (hj : j < ps.length) (i : Nat) (hi : i < k) (u : Value) (hu : u.oneCell' = true) (y : α) (C : List Value) (hC : ps[j].2 = C) :
    RowD k T lo (w.setCell ⟨g, j * k + i, none⟩ u) (.slice (some ⟨g, 0, none⟩) n cap) (ps.set j (y, C.set i u)) := by
  subst hC
  have hn : n = ps.length := by
    rcases h.row.2 with ⟨e, _⟩ | ⟨g', cap', cur, e, _⟩
    · cases e
    · cases e; rfl
  subst hn
  refine ⟨?_, ?_⟩
  · have := (h.row.stored (j * k + i) u).1
    rw [List.length_set, ← flat_set (fun p hp => (h.one p hp).1) j hj i hi u y]
    exact this
  · intro p hp
    rcases List.mem_or_eq_of_mem_set hp with hp | rfl
    · exact h.one p hp
    · have := h.one _ (List.getElem_mem hj)
      refine ⟨by rw [List.length_set]; exact this.1, fun v hv => ?_⟩
      rcases List.mem_or_eq_of_mem_set hv with hv | rfl
      · exact this.2 v hv
      · exact hu
/-- An element is turned, the rest stays. -/
theorem OwnD.turned {α : Type} {R : World → α → List Value → Prop} {k : Nat} {T : TypeId} {S : Nat → Prop} {lo g n cap : Nat} {w w' : World} {ps : List (α × List Value)} (h : OwnD R k T S lo w (.slice (some ⟨g, 0, none⟩) n cap) ps) (hs : StayD (fun b => b ≠ g) w w') (j : Nat) (x : α) (C : List Value)
    (hr : RowD k T lo w' (.slice (some ⟨g, 0, none⟩) n cap) (ps.set j (x, C))) (hx : KpD (OffD S (some g)) w' (fun W => R W x C)) : OwnD R k T S lo w' (.slice (some ⟨g, 0, none⟩) n cap) (ps.set j (x, C)) := by
  refine ⟨hr.row, hr.one, fun p hp => ?_⟩
  rcases List.mem_or_eq_of_mem_set hp with hp | rfl
  · exact (h.els p hp).stay (hs.less (fun b _ hb e => hb.2 (by rw [e]; rfl)))
  · exact hx
/-- What a source holds, one cell behind the other. -/
def Srcs {α : Type} (w : World) (aa : Option Addr) (xs : List (α × List Value)) : Prop := xs = [] ∨ ∃ b off : Nat, aa = some ⟨b, off, none⟩ ∧ ∀ j u, ((xs.map Prod.snd).flatten)[j]? = some u → w.cell? ⟨b, off + j, none⟩ = some u
theorem ReadD.srcs {α : Type} {R : World → α → List Value → Prop} {k : Nat} {a : Option Addr} {ps : List (α × List Value)} {W : World} (h : ReadD R k a ps W) (hk : 0 < k) : Srcs W a ps := by
  rcases h with h | ⟨g, ha, _, hc⟩
  · exact .inl h
  · refine .inr ⟨g, 0, ha, fun j u hu => ?_⟩
    have hall : ∀ p ∈ ps, p.2.length = k := by
      intro p hp
      obtain ⟨i, hi, rfl⟩ := List.getElem_of_mem hp
      exact (hc i hi).2.1
    have hlen : ((ps.map Prod.snd).flatten).length = ps.length * k := by
      clear hc hu
      induction ps with
      | nil => simp
      | cons x t ih =>
        simp only [List.map_cons, List.flatten_cons, List.length_append, List.length_cons]
        rw [ih (fun p hp => hall p (by simp [hp])), hall x (by simp), Nat.add_mul]; omega
    have hj : j < ps.length * k := by
      rw [← hlen]
      exact (List.getElem?_eq_some_iff.1 hu).1
    have hq : j / k < ps.length := Nat.div_lt_of_lt_mul (by rw [Nat.mul_comm]; exact hj)
    have hr : j % k < k := Nat.mod_lt _ hk
    have he : j / k * k + j % k = j := by rw [Nat.mul_comm]; exact Nat.div_add_mod j k
    have hfa : ∀ (l : List (α × List Value)), (∀ p ∈ l, p.2.length = k) → ∀ (m : Nat) (hm : m < l.length) (i : Nat), i < k → ((l.map Prod.snd).flatten)[m * k + i]? = l[m].2[i]? := by
      intro l
      induction l with
      | nil => intro _ m hm; simp at hm
      | cons x t ih =>
        intro hl m hm i hi
        have h1 := hl x (by simp)
        simp only [List.map_cons, List.flatten_cons]
        cases m with
        | zero => rw [List.getElem?_append_left (by omega)]; simp
        | succ m =>
          rw [List.getElem?_append_right (by rw [h1, Nat.add_mul]; omega), h1, show (m + 1) * k + i - k = m * k + i by rw [Nat.add_mul]; omega, ih (fun p hp => hl p (by simp [hp])) m (by simpa using hm) i hi]
          simp
    rw [Nat.zero_add]
    have := (hc (j / k) hq).1 (j % k) hr
    rw [he] at this
    rw [this, ← hfa ps hall (j / k) hq (j % k) hr, he, hu]
/-- All of a source behind a row. -/
theorem appAll {α : Type} {R : World → α → List Value → Prop} {k : Nat} {T : TypeId} {S : Nat → Prop} {lo g n cap : Nat} {w : World} {ps : List (α × List Value)} (h : OwnD R k T S lo w (.slice (some ⟨g, 0, none⟩) n cap) ps) (hlo : lo ≤ w.heap.size)
    (t : TypeId) (i : TypeInfo) (z : Value) (bytes : Nat) (ht : Tryz.prog.underlying t = some (.slice T)) (hi : Tryz.prog.info? T = some i) (hz : i.zero = some z) (hk : i.size = k) (hby : i.bytes = bytes) (hzs : z.cells.size = k) (hk0 : 0 < k) (hbb : bytes ≤ 1000)
    (aa : Option Addr) (c : Nat) (xs : List (α × List Value)) (hone : ∀ p ∈ xs, p.2.length = k ∧ ∀ u ∈ p.2, u.oneCell' = true) (hsrc : Srcs w aa xs) (hn : ps.length + xs.length ≤ 10000) (hels : ∀ p ∈ xs, KpD (OffD S (some g)) w (fun W => R W p.1 p.2)) :
    ∃ g' cap' w', (Builtin.append_ #[t, t] t #[.slice (some ⟨g, 0, none⟩) n cap, .slice aa xs.length c]).run Tryz.prog w = .ok (.slice (some ⟨g', 0, none⟩) (ps.length + xs.length) cap') w' ∧
      OwnD R k T S lo w' (.slice (some ⟨g', 0, none⟩) (ps.length + xs.length) cap') (ps ++ xs) ∧ w.grownBy w' (some g) ∧ (g' = g ∨ g' = w.heap.size) := by
  have hnn : n = ps.length := by
    rcases h.row.2 with ⟨e, _⟩ | ⟨g', cap', cur, e, _⟩
    · cases e
    · cases e; rfl
  subst hnn
  rcases hsrc with rfl | ⟨b, off, rfl, hc⟩
  · have hs : Go.Src Tryz.prog i.size t (.slice aa 0 c) 0 [] w := by
      cases aa with
      | none => exact Go.Src.ofNil w ht c
      | some ad => exact Go.Src.ofSlice w ht ad 0 c [] (by simp) (fun j u hu => by simp at hu) (fun u hu => by cases hu)
    have hcap : ps.length ≤ cap := by
      rcases h.row.2 with ⟨e, _⟩ | ⟨g', cap', cur, e, _, _, h5, _⟩
      · cases e
      · cases e; exact h5
    have := run_append_room_src (P := Tryz.prog) w t t t T i ht hi g 0 ps.length cap (.slice aa 0 c) 0 [] hs (by omega) (fun j hj => by simp at hj) (fun j hj => by simp at hj)
    refine ⟨g, cap, w, by simpa [World.setCells] using this, by simpa using h, ⟨rfl, rfl, rfl, Nat.le_refl _, fun _ _ _ => rfl⟩, .inl rfl⟩
  · by_cases h0 : xs = []
    · subst h0
      have hs : Go.Src Tryz.prog i.size t (.slice (some ⟨b, off, none⟩) 0 c) 0 [] w := Go.Src.ofSlice w ht ⟨b, off, none⟩ 0 c [] (by simp) (fun j u hu => by simp at hu) (fun u hu => by cases hu)
      have hcap : ps.length ≤ cap := by
        rcases h.row.2 with ⟨e, _⟩ | ⟨g', cap', cur, e, _, _, h5, _⟩
        · cases e
        · cases e; exact h5
      have := run_append_room_src (P := Tryz.prog) w t t t T i ht hi g 0 ps.length cap (.slice (some ⟨b, off, none⟩) 0 c) 0 [] hs (by omega) (fun j hj => by simp at hj) (fun j hj => by simp at hj)
      refine ⟨g, cap, w, by simpa [World.setCells] using this, by simpa using h, ⟨rfl, rfl, rfl, Nat.le_refl _, fun _ _ _ => rfl⟩, .inl rfl⟩
    · obtain ⟨g', cap', w', r, o, y, l⟩ := h.moreL hlo t i z bytes ht hi hz hk hby hzs hk0 hbb ⟨b, off, none⟩ c xs (List.length_pos_iff.2 h0) hone (fun j u hu => by rw [Addr.add_lit]; exact hc j u hu) hn hels
      refine ⟨g', cap', w', r, o, y, ?_⟩
      rcases l with l | l
      · exact .inl (Option.some.inj (show some g = some g' from l)).symm
      · exact .inr l
end Go.Proofs.YtffabnmgcicpiaaGreat
