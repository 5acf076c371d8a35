/- What l22Mod's walk wants of plain lemmas. No conditions. -/
import Derived.Test.YtffabnmgcicpiaaGreatDq
namespace Go.Proofs.YtffabnmgcicpiaaGreat
open Go.RowKit Go.PlainAid


/-- The cell of a row's word. -/
def EltW (_ : World) (x : ByteArray) (C : List Value) : Prop := C = [.string x] ∧ x.size ≤ maxLen
/-- The nine cells of a row's function. -/
def EltF (h : Nat) (W : World) (x : TF) (C : List Value) : Prop := ∃ c0 c1 c2 c3 c4 c5 c6 c7 c8 : Value, C = [c0, c1, c2, c3, c4, c5, c6, c7, c8] ∧ IsFun W 0 W.heap.size h (.agg #[c0, c1, c2, c3, c4, c5, c6, c7, c8]) x
theorem infoW : (Tryz.prog.info? 9).map (fun i => (i.zero, i.size, i.bytes)) = some (some (.string ⟨#[]⟩), 1, 16) := by kernel_rfl
theorem infoF : (Tryz.prog.info? 33).map (fun i => (i.zero, i.size, i.bytes)) = some (some (.agg #[.string ⟨#[]⟩, .bool false, .slice none 0 0, .int .i64 0, .int .i64 0, .int .i64 0, .string ⟨#[]⟩, .string ⟨#[]⟩, .slice none 0 0]), 9, 128) := by kernel_rfl
/-- The words of a list, each with its cell. -/
def wordsP (l : List ByteArray) : List (ByteArray × List Value) := l.map fun x => (x, [.string x])
theorem wordsP_len (l : List ByteArray) : (wordsP l).length = l.length := by simp [wordsP]
theorem wordsP_fst (l : List ByteArray) : (wordsP l).map Prod.fst = l := by simp [wordsP, Function.comp_def]
theorem wordsP_flat : ∀ l : List ByteArray, ((wordsP l).map Prod.snd).flatten = l.map Value.string
  | [] => rfl
  | x :: t => by
    have := wordsP_flat t
    unfold wordsP at this ⊢
    simp only [List.map_cons, List.flatten_cons]
    rw [this]; rfl
theorem wordsP_one (l : List ByteArray) : ∀ p ∈ wordsP l, p.2.length = 1 ∧ ∀ u ∈ p.2, u.oneCell' = true := by
  intro p hp
  obtain ⟨x, _, rfl⟩ := List.mem_map.1 hp
  exact ⟨rfl, fun u hu => by rw [List.mem_singleton] at hu; subst hu; rfl⟩
theorem IsWds.srcs {w : World} {lo n : Nat} {a : Option Addr} {l : List ByteArray} (h : IsWds w lo n a l) : Srcs w a (wordsP l) := by
  rcases h with rfl | ⟨b, off, ha, _, _, hc⟩
  · exact .inl rfl
  · refine .inr ⟨b, off, ha, fun j u hu => ?_⟩
    rw [wordsP_flat] at hu
    obtain ⟨hj, e⟩ := List.getElem?_eq_some_iff.1 hu
    have hj' : j < l.length := by simpa using hj
    rw [hc j hj', ← e, List.getElem_map]
theorem ReadD.wds {a : Option Addr} {l : List ByteArray} {W : World} (h : ReadD EltW 1 a (wordsP l) W) : IsWds W 0 W.heap.size a l := by
  rcases h with h | ⟨g, ha, hg, hc⟩
  · refine .inl ?_
    have := wordsP_fst l
    rw [h] at this
    exact this.symm
  · refine .inr ⟨g, 0, ha, Nat.zero_le _, hg, fun j hj => ?_⟩
    have hj' : j < (wordsP l).length := by rw [wordsP_len]; exact hj
    have h1 := (hc j hj').1 0 (by omega)
    have : (wordsP l)[j] = (l[j], [.string l[j]]) := by simp [wordsP]
    rw [this] at h1
    rw [Nat.mul_one, Nat.add_zero] at h1
    rw [Nat.zero_add]
    exact h1
theorem ReadD.funs {h : Nat} {a : Option Addr} {ps : List (TF × List Value)} {W : World} (hr : ReadD (EltF h) 9 a ps W) : IsFuns (IsFun W 0 W.heap.size h) W 0 W.heap.size a (ps.map Prod.fst) := by
  rcases hr with rfl | ⟨g, rfl, hg, hc⟩
  · exact .inl rfl
  · refine .inr ⟨g, 0, rfl, Nat.zero_le _, hg, fun j hj => ?_⟩
    have hj' : j < ps.length := by simpa using hj
    obtain ⟨h1, h2, c0, c1, c2, c3, c4, c5, c6, c7, c8, e, hE⟩ := hc j hj'
    have hx : ∀ i, i < 9 → W.cell? ⟨g, 0 + j * 9 + i, none⟩ = [c0, c1, c2, c3, c4, c5, c6, c7, c8][i]? := fun i hi => by rw [Nat.zero_add, h1 i hi, e]
    refine ⟨c0, c1, c2, c3, c4, c5, c6, c7, c8, hx 0 (by omega), hx 1 (by omega), hx 2 (by omega), hx 3 (by omega), hx 4 (by omega), hx 5 (by omega), hx 6 (by omega), hx 7 (by omega), hx 8 (by omega), ?_⟩
    rw [List.getElem_map]
    exact hE
/-- The words out of which a module's functions are named. -/
def nmF (k : Nat) : ByteArray := if k = 1 then ⟨#[103]⟩ else if k = 2 then ⟨#[104]⟩ else if k = 3 then ⟨#[115, 117, 109]⟩ else ⟨#[102]⟩
/-- A drawn function that is not too great. -/
def FOk (x : TF) : Prop := x.name.size ≤ 8 ∧ x.args.length ≤ 2 ∧ ∀ y ∈ x.args, y.name.size ≤ 8

theorem IsFun.ups {w : World} {lo n h h' : Nat} {v : Value} {e : TF} (hE : IsFun w lo n h v e) (hh : h ≤ h') : IsFun w lo n h' v e := by
  obtain ⟨aa, ca, b0, b1, b2, b3, b4, hv, hz, ha, hE⟩ := hE
  exact ⟨aa, ca, b0, b1, b2, b3, b4, hv, hz, ha, hE.ups hh⟩
theorem EltF.ups {h h' : Nat} {W : World} {x : TF} {C : List Value} (hE : EltF h W x C) (hh : h ≤ h') : EltF h' W x C := by
  obtain ⟨c0, c1, c2, c3, c4, c5, c6, c7, c8, e, hF⟩ := hE
  exact ⟨c0, c1, c2, c3, c4, c5, c6, c7, c8, e, hF.ups hh⟩
theorem OwnD.map {α : Type} {R R' : World → α → List Value → Prop} {k : Nat} {T : TypeId} {S : Nat → Prop} {lo : Nat} {w : World} {v : Value} {ps : List (α × List Value)} (h : OwnD R k T S lo w v ps) (hR : ∀ W x C, R W x C → R' W x C) : OwnD R' k T S lo w v ps := ⟨h.row, h.one, fun p hp => (h.els p hp).imp (fun W hW => hR W _ _ hW)⟩
theorem OwnD.readsSub {α : Type} {R : World → α → List Value → Prop} {k : Nat} {T : TypeId} {S : Nat → Prop} {lo n cap : Nat} {a : Option Addr} {w : World} {ps : List (α × List Value)} (h : OwnD R k T S lo w (.slice a n cap) ps) (hS : ∀ g, (Value.slice a n cap).ownBlock = some g → S g) : KpD S w (ReadD R k a ps) := by
  intro W hW
  have h' := h.staySub hW hS
  by_cases h0 : ps = []
  · exact .inl h0
  have hpos : 0 < ps.length := List.length_pos_iff.2 h0
  rcases h'.row.2 with ⟨_, h1⟩ | ⟨g, cap', cur, hv, _⟩
  · omega
  simp only [Value.slice.injEq] at hv
  obtain ⟨rfl, rfl, rfl⟩ := hv
  exact .inr ⟨g, rfl, (h'.row.lt g rfl).2, fun j hj => ⟨fun i hi => h'.cell j hj i hi, (h'.one _ (List.getElem_mem hj)).1, (h'.els _ (List.getElem_mem hj)).now⟩⟩

theorem wtFuns_leN {l : List TF} {N : Nat} (h : ∀ x ∈ l, x.wt ≤ N) : wtFuns l ≤ l.length * N := by
  induction l with
  | nil => simp [wtFuns]
  | cons x t ih =>
    have h1 := h x (by simp)
    have h2 := ih (fun p hp => h p (by simp [hp]))
    unfold wtFuns at h2 ⊢
    simp only [List.map_cons, List.sum_cons, List.length_cons]
    rw [Nat.add_mul]; omega
theorem wtWds_leN {l : List ByteArray} {N : Nat} (h : ∀ x ∈ l, x.size ≤ N) : wtWds l ≤ l.length * N := by
  induction l with
  | nil => simp [wtWds]
  | cons x t ih =>
    have h1 := h x (by simp)
    have h2 := ih (fun p hp => h p (by simp [hp]))
    unfold wtWds at h2 ⊢
    simp only [List.map_cons, List.sum_cons, List.length_cons]
    rw [Nat.add_mul]; omega
theorem wtArgs_leN {l : List TA} {N : Nat} (h : ∀ x ∈ l, x.name.size ≤ N) : wtArgs l ≤ l.length * N := by
  induction l with
  | nil => simp [wtArgs]
  | cons x t ih =>
    have h1 := h x (by simp)
    have h2 := ih (fun p hp => h p (by simp [hp]))
    have h3 : x.wt = x.name.size := rfl
    unfold wtArgs at h2 ⊢
    simp only [List.map_cons, List.sum_cons, List.length_cons]
    rw [Nat.add_mul]; omega
theorem FOk.wt {x : TF} (h : FOk x) (hb : x.body.wt ≤ 4000) : x.wt ≤ 5000 := by
  obtain ⟨h1, h2, h3⟩ := h
  have h4 := wtArgs_leN h3
  have h5 : x.wt = x.name.size + (x.args.length + wtArgs x.args) + x.body.wt := rfl
  omega
theorem mod_wt {uses : List ByteArray} {gs : List (TF × List Value)} {mn : List TE} (h1 : uses.length ≤ 4 ∧ ∀ x ∈ uses, x.size ≤ 8) (h2 : gs.length ≤ 3) (h3 : ∀ x ∈ gs, FOk x.1 ∧ x.1.body.wt ≤ 4000) (h4 : mn.length ≤ 1 ∧ wtL mn ≤ 20000) : (TM.mk uses (gs.map Prod.fst) mn).wt ≤ 40000 := by
  have e1 := wtWds_leN h1.2
  have e2 : wtFuns (gs.map Prod.fst) ≤ (gs.map Prod.fst).length * 5000 := wtFuns_leN (fun x hx => by
    obtain ⟨p, hp, rfl⟩ := List.mem_map.1 hx
    exact (h3 p hp).1.wt (h3 p hp).2)
  have e3 : (TM.mk uses (gs.map Prod.fst) mn).wt = (uses.length + wtWds uses) + ((gs.map Prod.fst).length + wtFuns (gs.map Prod.fst)) + (mn.length + wtL mn) := rfl
  rw [List.length_map] at e2 e3
  have e4 := h1.1
  omega
theorem isMod_of {W : World} {gu cu fc mc : Nat} {fa ma : Option Addr} {uses : List ByteArray} {gs : List (TF × List Value)} {mn : List TE} (h1 : uses.length ≤ 4 ∧ ∀ x ∈ uses, x.size ≤ 8) (hc : uses.length ≤ cu) (h2 : gs.length ≤ 3) (h4 : mn.length ≤ 1) (hU : IsWds W 0 W.heap.size (some ⟨gu, 0, none⟩) uses) (hF : IsFuns (IsFun W 0 W.heap.size 7) W 0 W.heap.size fa (gs.map Prod.fst)) (hK : IsKids (IsE W 0 W.heap.size 7) W 0 W.heap.size ma mn) :
    IsMod W 0 W.heap.size 7 (.agg #[.slice (some ⟨gu, 0, none⟩) uses.length cu, .slice fa gs.length fc, .slice ma mn.length mc]) ⟨uses, gs.map Prod.fst, mn⟩ := by
  refine ⟨_, _, _, cu, fc, mc, by rw [List.length_map], ⟨?_, ?_, ?_, ?_, hc⟩, hU, hF, hK⟩
  · have := h1.1; unfold maxLen; show uses.length ≤ _; omega
  · unfold maxLen; rw [List.length_map]; omega
  · unfold maxLen; show mn.length ≤ _; omega
  · intro x hx; have := h1.2 x hx; unfold maxLen; omega
/-- The row without its last element. -/
theorem OwnD.cut1 {α : Type} {R : World → α → List Value → Prop} {k : Nat} {T : TypeId} {S : Nat → Prop} {lo g n cap : Nat} {w : World} {ps : List (α × List Value)} (h : OwnD R k T S lo w (.slice (some ⟨g, 0, none⟩) (n + 1) cap) ps) : ps.length = n + 1 ∧ OwnD R k T S lo w (.slice (some ⟨g, 0, none⟩) n cap) ps.dropLast := by
  have hsub : ∀ p ∈ ps.dropLast, p ∈ ps := fun p hp => List.dropLast_subset ps hp
  rcases h.row.2 with ⟨e, _⟩ | ⟨g', cap', cur, e, h3, h4, h5, h6, h7, h8⟩
  · cases e
  simp only [Value.slice.injEq, Option.some.injEq, Addr.mk.injEq, and_true] at e
  obtain ⟨rfl, hl, rfl⟩ := e
  refine ⟨hl.symm, ⟨?_, ?_⟩, fun p hp => h.one p (hsub p hp), fun p hp => h.els p (hsub p hp)⟩
  · rw [flat_len (fun p hp => h.one p (hsub p hp))]
  · have hdl : ps.dropLast.length = n := by rw [List.length_dropLast]; omega
    refine .inr ⟨g, cap, cur, by rw [hdl], h3, h4, by omega, h6, h7, ?_⟩
    have hne : ps ≠ [] := by intro e; rw [e] at hl; simp at hl
    have hfl : (ps.map Prod.snd).flatten = (ps.dropLast.map Prod.snd).flatten ++ (ps.getLast hne).2 := by
      conv => lhs; rw [← List.dropLast_concat_getLast hne]
      rw [List.map_append, List.flatten_append]; simp
    have hlen := flat_len (k := k) (ps := ps.dropLast) (fun p hp => h.one p (hsub p hp))
    rw [← List.take_left' (l₂ := (ps.getLast hne).2) hlen, ← hfl, ← h8, List.take_take]
    congr 1
    rw [← hl, hdl, Nat.add_mul]; omega
theorem OwnD.nine {R : World → TF → List Value → Prop} {T : TypeId} {S : Nat → Prop} {lo : Nat} {w : World} {v : Value} {ps : List (TF × List Value)} (h : OwnD R 9 T S lo w v ps) (j : Nat) (hj : j < ps.length) : ∃ c0 c1 c2 c3 c4 c5 c6 c7 c8 : Value, ps[j].2 = [c0, c1, c2, c3, c4, c5, c6, c7, c8] := by
  have hl := (h.one _ (List.getElem_mem hj)).1
  generalize ps[j].2 = C at hl
  match C, hl with
  | [c0, c1, c2, c3, c4, c5, c6, c7, c8], _ => exact ⟨_, _, _, _, _, _, _, _, _, rfl⟩
theorem EltF.num {h : Nat} {W : World} {x : TF} {c0 c1 c2 c3 c4 c5 c6 c7 c8 : Value} (hE : EltF (h + 1) W x [c0, c1, c2, c3, c4, c5, c6, c7, c8]) (k : Int) : EltF (h + 1) W ⟨x.name, x.pub, x.args, 1, .node 1 k ⟨#[]⟩ ⟨#[]⟩ []⟩ [c0, c1, c2, .int .i64 1, .int .i64 1, .int .i64 k, .string ⟨#[]⟩, .string ⟨#[]⟩, .slice none 0 0] := by
  obtain ⟨d0, d1, d2, d3, d4, d5, d6, d7, d8, e, hF⟩ := hE
  simp only [List.cons.injEq, and_true] at e
  obtain ⟨rfl, rfl, rfl, rfl, rfl, rfl, rfl, rfl, rfl⟩ := e
  obtain ⟨aa, ca, b0, b1, b2, b3, b4, hv, hz, ha, -⟩ := hF
  simp only [Value.agg.injEq, Array.mk.injEq, List.cons.injEq] at hv
  obtain ⟨rfl, rfl, rfl, -⟩ := hv
  exact ⟨_, _, _, _, _, _, _, _, _, rfl, aa, ca, _, _, _, _, _, rfl, hz, ha, (keepE_leaf (S := fun _ => True) (h := h) (w := W) (k := 1) (m := k) (nm := ⟨#[]⟩) (md := ⟨#[]⟩) (Nat.zero_le _) (Nat.zero_le _)).now⟩
theorem num_ok {x : TF} (h : FOk x) (k : Int) : FOk ⟨x.name, x.pub, x.args, 1, .node 1 k ⟨#[]⟩ ⟨#[]⟩ []⟩ ∧ (TE.node 1 k ⟨#[]⟩ ⟨#[]⟩ []).wt ≤ 4000 := ⟨h, by simp [TE.wt, wtL, emp_size]⟩

theorem RowD.cell {α : Type} {k : Nat} {T : TypeId} {lo g n cap : Nat} {w : World} {ps : List (α × List Value)} (h : RowD k T lo w (.slice (some ⟨g, 0, none⟩) n cap) ps) (j : Nat) (hj : j < ps.length) (i : Nat) (hi : i < k) : w.cell? ⟨g, j * k + i, none⟩ = ps[j].2[i]? := by
  have hlen := (h.one _ (List.getElem_mem hj)).1
  have hc := h.row.cells (g := g) rfl
  have hat := flat_at h.one j hj i hi
  have hv : ps[j].2[i]? = some (ps[j].2[i]'(by omega)) := List.getElem?_eq_getElem _
  have := hc _ _ (hat.trans hv)
  rw [Addr.add_lit, Nat.zero_add] at this
  rw [this, hv]
theorem ownBlock_len (a : Option Addr) (n m c : Nat) : (Value.slice a n c).ownBlock = (Value.slice a m c).ownBlock := by cases a <;> rfl
theorem OwnD.capLe {α : Type} {R : World → α → List Value → Prop} {k : Nat} {T : TypeId} {S : Nat → Prop} {lo g n cap : Nat} {w : World} {ps : List (α × List Value)} (h : OwnD R k T S lo w (.slice (some ⟨g, 0, none⟩) n cap) ps) : n ≤ cap := by
  rcases h.row.2 with ⟨e, _⟩ | ⟨g', cap', cur, e, h3, h4, h5, h6, h7, h8⟩
  · cases e
  · cases e; exact h5

/-- What is known of each slot that the region ModA writes. -/
def ModA (lo x : Nat) (FB : Nat) (ov : Value) (nm : ByteArray) (ty : Int) (zs : List Int) (fv : Value) : Nat → Value → World → Prop
  | 0, v, _ => v = ov
  | 1, v, _ => v = .pointer (some ⟨FB, 0, none⟩)
  | 2, v, _ => v = .string nm
  | 3, v, _ => v = fv
  | 4, v, w => ∃ (aa : Option Addr) (ca : Nat), v = .agg #[.string nm, .slice aa zs.length ca, .int .i64 ty] ∧ KpD (fun b => lo ≤ b ∧ b ≠ x) w (fun W => IsInts W 0 W.heap.size aa zs)
  | 5, v, w => ∃ (aa : Option Addr) (ca : Nat), v = .slice aa zs.length ca ∧ KpD (fun b => lo ≤ b ∧ b ≠ x) w (fun W => IsInts W 0 W.heap.size aa zs)
  | 6, v, _ => v = .pointer (some ⟨FB, 3, none⟩)
  | 7, v, _ => v = .int .i64 ty
  | 8, v, w => ∃ (aa : Option Addr) (ca : Nat), v = .agg #[.string ⟨#[]⟩, .string nm, .slice aa zs.length ca, .int .i64 ty] ∧ KpD (fun b => lo ≤ b ∧ b ≠ x) w (fun W => IsInts W 0 W.heap.size aa zs)
  | 9, v, w => ∃ (h : Nat) (aa : Option Addr) (ca : Nat), v = .slice (some ⟨h, 0, none⟩) 1 1 ∧ lo ≤ h ∧ h < w.heap.size ∧ Blk w h [.string ⟨#[]⟩, .string nm, .slice aa zs.length ca, .int .i64 ty] ∧ KpD (fun b => lo ≤ b ∧ b ≠ x) w (fun W => IsInts W 0 W.heap.size aa zs)
  | _, _, _ => True
theorem ModA.stay {lo x : Nat} {FB : Nat} {ov : Value} {nm : ByteArray} {ty : Int} {zs : List Int} {fv : Value} {w w' : World} (hs : StayD (fun _ => True) w w') (hl0 : ∀ b, lo ≤ b ∧ b ≠ x → (fun _ => True) b) : ∀ (j : Nat) (v : Value), ModA lo x FB ov nm ty zs fv j v w → ModA lo x FB ov nm ty zs fv j v w' := by
  have hl : StayD (fun b => lo ≤ b ∧ b ≠ x) w w' := hs.less (fun b _ h => hl0 b h)
  intro j v h
  match j, h with
  | 0, h => exact h
  | 1, h => exact h
  | 2, h => exact h
  | 3, h => exact h
  | 4, h => obtain ⟨aa, ca, h1, h2⟩ := h; exact ⟨aa, ca, h1, h2.stay hl⟩
  | 5, h => obtain ⟨aa, ca, h1, h2⟩ := h; exact ⟨aa, ca, h1, h2.stay hl⟩
  | 6, h => exact h
  | 7, h => exact h
  | 8, h => obtain ⟨aa, ca, h1, h2⟩ := h; exact ⟨aa, ca, h1, h2.stay hl⟩
  | 9, h => obtain ⟨h0, aa, ca, h1, h2, h3, h4, h5⟩ := h; exact ⟨h0, aa, ca, h1, h2, Nat.lt_of_lt_of_le h3 hs.1, h4.ofb (hs.2 h0 h3 trivial), h5.stay hl⟩
  | j + 10, _ => trivial

/-- What is known of each slot that the region ModC writes. -/
def ModC (lo x : Nat) (mb fg n fc k gb fb : Nat) (fv av : Value) : Nat → Value → World → Prop
  | 0, v, _ => v = .pointer (some ⟨mb, 1, none⟩)
  | 1, v, _ => v = .slice (some ⟨fg, 0, none⟩) n fc
  | 2, v, _ => v = .int .i64 k
  | 3, v, _ => v = fv
  | 4, v, _ => v = .pointer (some ⟨gb, 0, none⟩)
  | 5, v, w => ∃ e : TE, KeepE (fun b => lo ≤ b ∧ b ≠ x) 2 w v e ∧ e.wt ≤ 24
  | 6, v, _ => v = .pointer (some ⟨gb, 0, none⟩)
  | 7, v, _ => v = .pointer (some ⟨fb, 2, none⟩)
  | 8, v, _ => v = av
  | 9, v, w => ∃ e : TE, KeepE (fun b => lo ≤ b ∧ b ≠ x) 2 w v e ∧ e.wt ≤ 24
  | 10, v, w => ∃ e : TE, KeepE (fun b => lo ≤ b ∧ b ≠ x) 5 w v e ∧ e.wt ≤ 3000
  | 11, v, _ => v = .pointer (some ⟨fg, k * 9, none⟩)
  | 12, v, _ => v = .pointer (some ⟨fg, k * 9 + 4, none⟩)
  | _, _, _ => True
theorem ModC.stay {bb lo x : Nat} {mb fg n fc k gb fb : Nat} {fv av : Value} {w w' : World} (hs : StayD (fun b => b ≠ bb) w w') (hl0 : ∀ b, lo ≤ b ∧ b ≠ x → (fun b => b ≠ bb) b) : ∀ (j : Nat) (v : Value), ModC lo x mb fg n fc k gb fb fv av j v w → ModC lo x mb fg n fc k gb fb fv av j v w' := by
  have hl : StayD (fun b => lo ≤ b ∧ b ≠ x) w w' := hs.less (fun b _ h => hl0 b h)
  intro j v h
  match j, h with
  | 0, h => exact h
  | 1, h => exact h
  | 2, h => exact h
  | 3, h => exact h
  | 4, h => exact h
  | 5, h => obtain ⟨e, h1, h2⟩ := h; exact ⟨e, h1.stay hl, h2⟩
  | 6, h => exact h
  | 7, h => exact h
  | 8, h => exact h
  | 9, h => obtain ⟨e, h1, h2⟩ := h; exact ⟨e, h1.stay hl, h2⟩
  | 10, h => obtain ⟨e, h1, h2⟩ := h; exact ⟨e, h1.stay hl, h2⟩
  | 11, h => exact h
  | 12, h => exact h
  | j + 13, _ => trivial

/-- What is known of each slot that the region ModB writes. -/
def ModB (lo x : Nat) (mb fg n fc k gb fb bb : Nat) (ty : Int) (av : Value) : Nat → Value → World → Prop
  | 0, v, _ => v = .pointer (some ⟨mb, 1, none⟩)
  | 1, v, _ => v = .slice (some ⟨fg, 0, none⟩) n fc
  | 2, v, _ => v = .int .i64 k
  | 3, v, _ => v = .pointer (some ⟨gb, 0, none⟩)
  | 4, v, _ => v = .pointer (some ⟨fb, 3, none⟩)
  | 5, v, _ => v = .int .i64 ty
  | 6, v, _ => v = .pointer (some ⟨fb, 2, none⟩)
  | 7, v, _ => v = av
  | 8, v, _ => v = .pointer (some ⟨bb, 0, none⟩)
  | 9, v, _ => ∃ j : Nat, v = .int .i64 j ∧ j < 3
  | 10, v, _ => ∃ j : Nat, v = .int .i64 (1 + (j : Int)) ∧ j < 3
  | 11, v, w => ∃ e : TE, KeepE (fun b => lo ≤ b ∧ b ≠ x) 5 w v e ∧ e.wt ≤ 3000
  | 12, v, _ => v = .pointer (some ⟨fg, k * 9, none⟩)
  | 13, v, _ => v = .pointer (some ⟨fg, k * 9 + 4, none⟩)
  | _, _, _ => True
theorem ModB.stay {lo x : Nat} {mb fg n fc k gb fb bb : Nat} {ty : Int} {av : Value} {w w' : World} (hs : StayD (fun b => b ≠ bb) w w') (hl0 : ∀ b, lo ≤ b ∧ b ≠ x → (fun b => b ≠ bb) b) : ∀ (j : Nat) (v : Value), ModB lo x mb fg n fc k gb fb bb ty av j v w → ModB lo x mb fg n fc k gb fb bb ty av j v w' := by
  have hl : StayD (fun b => lo ≤ b ∧ b ≠ x) w w' := hs.less (fun b _ h => hl0 b h)
  intro j v h
  match j, h with
  | 0, h => exact h
  | 1, h => exact h
  | 2, h => exact h
  | 3, h => exact h
  | 4, h => exact h
  | 5, h => exact h
  | 6, h => exact h
  | 7, h => exact h
  | 8, h => exact h
  | 9, h => exact h
  | 10, h => exact h
  | 11, h => obtain ⟨e, h1, h2⟩ := h; exact ⟨e, h1.stay hl, h2⟩
  | 12, h => exact h
  | 13, h => exact h
  | j + 14, _ => trivial
end Go.Proofs.YtffabnmgcicpiaaGreat
