/- Shapes of rows that are marked: what is kept of them. No conditions. -/
import Derived.Test.YtkiaidjkhhljhaaMk
import Derived.Test.YtkiaidjkhhljhaaJc
namespace Go.Proofs.Ytkiaidjkhhljhaa
open Go.RowKit Go.PlainAid

def sm {α : Type} (f : α → Nat) (l : List α) : Nat := (l.map f).sum
theorem sm_step {α : Type} (f : α → Nat) (xs : List α) (k : Nat) (h : k < xs.length) : sm f (xs.take (k + 1)) = sm f (xs.take k) + f xs[k] := by
  unfold sm; rw [List.take_succ_eq_append_getElem h, List.map_append, List.sum_append]; simp
theorem sm_le {α : Type} (f : α → Nat) (xs : List α) (k : Nat) : sm f (xs.take k) ≤ sm f xs := by
  have : sm f xs = sm f (xs.take k) + sm f (xs.drop k) := by
    unfold sm
    conv => lhs; rw [← List.take_append_drop k xs]
    rw [List.map_append, List.sum_append]
  omega
theorem IsKids.ak {R R' : Value → TE → Prop} {w w' : World} {lo n : Nat} {a : Option Addr} {xs : List TE} (h : IsKids R w lo n a xs) (hm : Mk lo n w w') (hR : ∀ c0 e0 c1 e1 c2 e2 c3 e3 c4 e4 e, Ak c0 e0 → Ak c1 e1 → Ak c2 e2 → Ak c3 e3 → Ak c4 e4 → R (.agg #[c0, c1, c2, c3, c4]) e → R' (.agg #[e0, e1, e2, e3, e4]) e) : IsKids R' w' lo n a xs := by
  rcases h with h | ⟨b, off, h1, h0, h2, h3⟩
  · exact .inl h
  · refine .inr ⟨b, off, h1, h0, h2, fun j hj => ?_⟩
    obtain ⟨c0, c1, c2, c3, c4, d0, d1, d2, d3, d4, hr⟩ := h3 j hj
    obtain ⟨e0, g0, a0⟩ := hm.al _ _ _ h0 h2 d0
    obtain ⟨e1, g1, a1⟩ := hm.al _ _ _ h0 h2 d1
    obtain ⟨e2, g2, a2⟩ := hm.al _ _ _ h0 h2 d2
    obtain ⟨e3, g3, a3⟩ := hm.al _ _ _ h0 h2 d3
    obtain ⟨e4, g4, a4⟩ := hm.al _ _ _ h0 h2 d4
    exact ⟨e0, e1, e2, e3, e4, g0, g1, g2, g3, g4, hR _ _ _ _ _ _ _ _ _ _ _ a0 a1 a2 a3 a4 hr⟩
theorem IsArgs.ak {R R' : Value → TA → Prop} {w w' : World} {lo n : Nat} {a : Option Addr} {xs : List TA} (h : IsArgs R w lo n a xs) (hm : Mk lo n w w') (hR : ∀ c0 e0 c1 e1 e, Ak c0 e0 → Ak c1 e1 → R (.agg #[c0, c1]) e → R' (.agg #[e0, e1]) e) : IsArgs R' w' lo n a xs := by
  rcases h with h | ⟨b, off, h1, h0, h2, h3⟩
  · exact .inl h
  · refine .inr ⟨b, off, h1, h0, h2, fun j hj => ?_⟩
    obtain ⟨c0, c1, d0, d1, hr⟩ := h3 j hj
    obtain ⟨e0, g0, a0⟩ := hm.al _ _ _ h0 h2 d0
    obtain ⟨e1, g1, a1⟩ := hm.al _ _ _ h0 h2 d1
    exact ⟨e0, e1, g0, g1, hR _ _ _ _ _ a0 a1 hr⟩
theorem IsFuns.ak {R R' : Value → TF → Prop} {w w' : World} {lo n : Nat} {a : Option Addr} {xs : List TF} (h : IsFuns R w lo n a xs) (hm : Mk lo n w w') (hR : ∀ c0 e0 c1 e1 c2 e2 c3 e3 c4 e4 c5 e5 c6 e6 c7 e7 c8 e8 e, Ak c0 e0 → Ak c1 e1 → Ak c2 e2 → Ak c3 e3 → Ak c4 e4 → Ak c5 e5 → Ak c6 e6 → Ak c7 e7 → Ak c8 e8 → R (.agg #[c0, c1, c2, c3, c4, c5, c6, c7, c8]) e → R' (.agg #[e0, e1, e2, e3, e4, e5, e6, e7, e8]) e) : IsFuns R' w' lo n a xs := by
  rcases h with h | ⟨b, off, h1, h0, h2, h3⟩
  · exact .inl h
  · refine .inr ⟨b, off, h1, h0, h2, fun j hj => ?_⟩
    obtain ⟨c0, c1, c2, c3, c4, c5, c6, c7, c8, d0, d1, d2, d3, d4, d5, d6, d7, d8, hr⟩ := h3 j hj
    obtain ⟨e0, g0, a0⟩ := hm.al _ _ _ h0 h2 d0
    obtain ⟨e1, g1, a1⟩ := hm.al _ _ _ h0 h2 d1
    obtain ⟨e2, g2, a2⟩ := hm.al _ _ _ h0 h2 d2
    obtain ⟨e3, g3, a3⟩ := hm.al _ _ _ h0 h2 d3
    obtain ⟨e4, g4, a4⟩ := hm.al _ _ _ h0 h2 d4
    obtain ⟨e5, g5, a5⟩ := hm.al _ _ _ h0 h2 d5
    obtain ⟨e6, g6, a6⟩ := hm.al _ _ _ h0 h2 d6
    obtain ⟨e7, g7, a7⟩ := hm.al _ _ _ h0 h2 d7
    obtain ⟨e8, g8, a8⟩ := hm.al _ _ _ h0 h2 d8
    exact ⟨e0, e1, e2, e3, e4, e5, e6, e7, e8, g0, g1, g2, g3, g4, g5, g6, g7, g8, hR _ _ _ _ _ _ _ _ _ _ _ _ _ _ _ _ _ _ _ a0 a1 a2 a3 a4 a5 a6 a7 a8 hr⟩
theorem IsSigs.ak {R R' : Value → TS → Prop} {w w' : World} {lo n : Nat} {a : Option Addr} {xs : List TS} (h : IsSigs R w lo n a xs) (hm : Mk lo n w w') (hR : ∀ c0 e0 c1 e1 c2 e2 e, Ak c0 e0 → Ak c1 e1 → Ak c2 e2 → R (.agg #[c0, c1, c2]) e → R' (.agg #[e0, e1, e2]) e) : IsSigs R' w' lo n a xs := by
  rcases h with h | ⟨b, off, h1, h0, h2, h3⟩
  · exact .inl h
  · refine .inr ⟨b, off, h1, h0, h2, fun j hj => ?_⟩
    obtain ⟨c0, c1, c2, d0, d1, d2, hr⟩ := h3 j hj
    obtain ⟨e0, g0, a0⟩ := hm.al _ _ _ h0 h2 d0
    obtain ⟨e1, g1, a1⟩ := hm.al _ _ _ h0 h2 d1
    obtain ⟨e2, g2, a2⟩ := hm.al _ _ _ h0 h2 d2
    exact ⟨e0, e1, e2, g0, g1, g2, hR _ _ _ _ _ _ _ a0 a1 a2 hr⟩
theorem IsFaces.ak {R R' : Value → TY → Prop} {w w' : World} {lo n : Nat} {a : Option Addr} {xs : List TY} (h : IsFaces R w lo n a xs) (hm : Mk lo n w w') (hR : ∀ c0 e0 c1 e1 e, Ak c0 e0 → Ak c1 e1 → R (.agg #[c0, c1]) e → R' (.agg #[e0, e1]) e) : IsFaces R' w' lo n a xs := by
  rcases h with h | ⟨b, off, h1, h0, h2, h3⟩
  · exact .inl h
  · refine .inr ⟨b, off, h1, h0, h2, fun j hj => ?_⟩
    obtain ⟨c0, c1, d0, d1, hr⟩ := h3 j hj
    obtain ⟨e0, g0, a0⟩ := hm.al _ _ _ h0 h2 d0
    obtain ⟨e1, g1, a1⟩ := hm.al _ _ _ h0 h2 d1
    exact ⟨e0, e1, g0, g1, hR _ _ _ _ _ a0 a1 hr⟩

/-- Shapes. -/
def ShE (w : World) (lo n : Nat) : Nat → Value → TE → Prop
  | 0, _, _ => False
  | h + 1, v, .node _ _ _ _ kids => ∃ (k m : Int) (nm md : ByteArray) (a : Option Addr) (cap : Nat), v = .agg #[.int .i64 k, .int .i64 m, .string nm, .string md, .slice a kids.length cap] ∧ kids.length ≤ maxLen ∧ IsKids (ShE w lo n h) w lo n a kids
theorem ShE.of {w : World} {lo n : Nat} : ∀ (h : Nat) (v : Value) (e : TE), IsE w lo n h v e → ShE w lo n h v e
  | 0, _, _, hE => hE.elim
  | h + 1, v, .node k m nm md kids, hE => by
    obtain ⟨a, cap, hv, hz, hk⟩ := hE
    exact ⟨k, m, nm, md, a, cap, hv, hz.2.2, hk.mono (ShE.of h) (fun _ _ _ => rfl) (Nat.le_refl _) (Nat.le_refl _)⟩
theorem ShE.ak {w w' : World} {lo n : Nat} (hm : Mk lo n w w') : ∀ (h : Nat) (c0 e0 c1 e1 c2 e2 c3 e3 c4 e4 : Value) (e : TE), Ak c0 e0 → Ak c1 e1 → Ak c2 e2 → Ak c3 e3 → Ak c4 e4 → ShE w lo n h (.agg #[c0, c1, c2, c3, c4]) e → ShE w' lo n h (.agg #[e0, e1, e2, e3, e4]) e
  | 0, _, _, _, _, _, _, _, _, _, _, _, _, _, _, _, _, hE => hE.elim
  | h + 1, c0, e0, c1, e1, c2, e2, c3, e3, c4, e4, .node _ _ _ _ kids, a0, a1, a2, a3, a4, hE => by
    obtain ⟨k, m, nm, md, a, cap, hv, hz, hk⟩ := hE
    simp only [Value.agg.injEq, Array.mk.injEq, List.cons.injEq] at hv
    obtain ⟨rfl, rfl, rfl, rfl, rfl, -⟩ := hv
    obtain ⟨k', rfl⟩ := a0.int
    obtain ⟨m', rfl⟩ := a1.int
    obtain ⟨nm', rfl⟩ := a2.str
    obtain ⟨md', rfl⟩ := a3.str
    obtain rfl := a4.slice
    exact ⟨k', m', nm', md', a, cap, rfl, hz, hk.ak hm (fun c0 e0 c1 e1 c2 e2 c3 e3 c4 e4 e => ShE.ak hm h c0 e0 c1 e1 c2 e2 c3 e3 c4 e4 e)⟩
def ShA (v : Value) (_ : TA) : Prop := ∃ (nm : ByteArray) (t : Int), v = .agg #[.string nm, .int .i64 t]
theorem ShA.ak (c0 e0 c1 e1 : Value) (e : TA) (a0 : Ak c0 e0) (a1 : Ak c1 e1) (h : ShA (.agg #[c0, c1]) e) : ShA (.agg #[e0, e1]) e := by
  obtain ⟨nm, t, hv⟩ := h
  simp only [Value.agg.injEq, Array.mk.injEq, List.cons.injEq] at hv
  obtain ⟨rfl, rfl, -⟩ := hv
  obtain ⟨nm', rfl⟩ := a0.str
  obtain ⟨t', rfl⟩ := a1.int
  exact ⟨_, _, rfl⟩
def ShF (w : World) (lo n h : Nat) (v : Value) (f : TF) : Prop :=
  ∃ (nm : ByteArray) (p : Bool) (aa : Option Addr) (ca : Nat) (t : Int) (b0 b1 b2 b3 b4 : Value), v = .agg #[.string nm, .bool p, .slice aa f.args.length ca, .int .i64 t, b0, b1, b2, b3, b4] ∧ f.args.length ≤ maxLen ∧ IsArgs ShA w lo n aa f.args ∧ ShE w lo n h (.agg #[b0, b1, b2, b3, b4]) f.body
theorem ShF.ak {w w' : World} {lo n : Nat} (hm : Mk lo n w w') (h : Nat) (c0 e0 c1 e1 c2 e2 c3 e3 c4 e4 c5 e5 c6 e6 c7 e7 c8 e8 : Value) (e : TF) (a0 : Ak c0 e0) (a1 : Ak c1 e1) (a2 : Ak c2 e2) (a3 : Ak c3 e3) (a4 : Ak c4 e4) (a5 : Ak c5 e5) (a6 : Ak c6 e6) (a7 : Ak c7 e7) (a8 : Ak c8 e8)
    (hF : ShF w lo n h (.agg #[c0, c1, c2, c3, c4, c5, c6, c7, c8]) e) : ShF w' lo n h (.agg #[e0, e1, e2, e3, e4, e5, e6, e7, e8]) e := by
  obtain ⟨nm, p, aa, ca, t, b0, b1, b2, b3, b4, hv, hz, ha, hE⟩ := hF
  simp only [Value.agg.injEq, Array.mk.injEq, List.cons.injEq] at hv
  obtain ⟨rfl, rfl, rfl, rfl, rfl, rfl, rfl, rfl, rfl, -⟩ := hv
  obtain ⟨nm', rfl⟩ := a0.str
  obtain ⟨p', rfl⟩ := a1.bool
  obtain rfl := a2.slice
  obtain ⟨t', rfl⟩ := a3.int
  exact ⟨nm', p', aa, ca, t', e4, e5, e6, e7, e8, rfl, hz, ha.ak hm ShA.ak, ShE.ak hm h _ _ _ _ _ _ _ _ _ _ _ a4 a5 a6 a7 a8 hE⟩
theorem ShF.of {w : World} {lo n h : Nat} {v : Value} {f : TF} (hF : IsFun w lo n h v f) : ShF w lo n h v f := by
  obtain ⟨aa, ca, b0, b1, b2, b3, b4, hv, hz, ha, hE⟩ := hF
  exact ⟨_, _, aa, ca, _, b0, b1, b2, b3, b4, hv, hz.2, ha.mono (fun v e he => ⟨_, _, he.1⟩) (fun _ _ _ => rfl) (Nat.le_refl _) (Nat.le_refl _), ShE.of h _ _ hE⟩
def ShI (w : World) (lo n : Nat) (a : Option Addr) (m : Nat) : Prop := m = 0 ∨ ∃ b off : Nat, a = some ⟨b, off, none⟩ ∧ lo ≤ b ∧ b < n ∧ ∀ j, j < m → ∃ x, w.cell? ⟨b, off + j, none⟩ = some (.int .i64 x)
theorem ShI.of {w : World} {lo n : Nat} {a : Option Addr} {zs : List Int} (h : IsInts w lo n a zs) : ShI w lo n a zs.length := by
  rcases h with rfl | ⟨b, off, h1, h0, h2, h3⟩
  · exact .inl rfl
  · exact .inr ⟨b, off, h1, h0, h2, fun j hj => ⟨_, h3 j hj⟩⟩
theorem ShI.ak {w w' : World} {lo n : Nat} {a : Option Addr} {m : Nat} (h : ShI w lo n a m) (hm : Mk lo n w w') : ShI w' lo n a m := by
  rcases h with h | ⟨b, off, h1, h0, h2, h3⟩
  · exact .inl h
  · refine .inr ⟨b, off, h1, h0, h2, fun j hj => ?_⟩
    obtain ⟨x, hx⟩ := h3 j hj
    obtain ⟨v, hv, ha⟩ := hm.al _ _ _ h0 h2 hx
    obtain ⟨y, rfl⟩ := ha.int
    exact ⟨y, hv⟩
def ShW (w : World) (lo n : Nat) (a : Option Addr) (m : Nat) : Prop := m = 0 ∨ ∃ b off : Nat, a = some ⟨b, off, none⟩ ∧ lo ≤ b ∧ b < n ∧ ∀ j, j < m → ∃ x, w.cell? ⟨b, off + j, none⟩ = some (.string x)
theorem ShW.of {w : World} {lo n : Nat} {a : Option Addr} {zs : List ByteArray} (h : IsWds w lo n a zs) : ShW w lo n a zs.length := by
  rcases h with rfl | ⟨b, off, h1, h0, h2, h3⟩
  · exact .inl rfl
  · exact .inr ⟨b, off, h1, h0, h2, fun j hj => ⟨_, h3 j hj⟩⟩
theorem ShW.ak {w w' : World} {lo n : Nat} {a : Option Addr} {m : Nat} (h : ShW w lo n a m) (hm : Mk lo n w w') : ShW w' lo n a m := by
  rcases h with h | ⟨b, off, h1, h0, h2, h3⟩
  · exact .inl h
  · refine .inr ⟨b, off, h1, h0, h2, fun j hj => ?_⟩
    obtain ⟨x, hx⟩ := h3 j hj
    obtain ⟨v, hv, ha⟩ := hm.al _ _ _ h0 h2 hx
    obtain ⟨y, rfl⟩ := ha.str
    exact ⟨y, hv⟩
def ShS (w : World) (lo n : Nat) (v : Value) (s : TS) : Prop := ∃ (nm : ByteArray) (aa : Option Addr) (ca : Nat) (t : Int), v = .agg #[.string nm, .slice aa s.args.length ca, .int .i64 t] ∧ s.args.length ≤ maxLen ∧ ShI w lo n aa s.args.length
theorem ShS.of {w : World} {lo n : Nat} {v : Value} {s : TS} (h : IsSig w lo n v s) : ShS w lo n v s := by
  obtain ⟨aa, ca, hv, hz, ha⟩ := h
  exact ⟨_, aa, ca, _, hv, hz.2, ShI.of ha⟩
theorem ShS.ak {w w' : World} {lo n : Nat} (hm : Mk lo n w w') (c0 e0 c1 e1 c2 e2 : Value) (e : TS) (a0 : Ak c0 e0) (a1 : Ak c1 e1) (a2 : Ak c2 e2) (h : ShS w lo n (.agg #[c0, c1, c2]) e) : ShS w' lo n (.agg #[e0, e1, e2]) e := by
  obtain ⟨nm, aa, ca, t, hv, hz, ha⟩ := h
  simp only [Value.agg.injEq, Array.mk.injEq, List.cons.injEq] at hv
  obtain ⟨rfl, rfl, rfl, -⟩ := hv
  obtain ⟨nm', rfl⟩ := a0.str
  obtain rfl := a1.slice
  obtain ⟨t', rfl⟩ := a2.int
  exact ⟨nm', aa, ca, t', rfl, hz, ha.ak hm⟩
def ShY (w : World) (lo n : Nat) (v : Value) (s : TY) : Prop := ∃ (nm : ByteArray) (aa : Option Addr) (ca : Nat), v = .agg #[.string nm, .slice aa s.sigs.length ca] ∧ s.sigs.length ≤ maxLen ∧ IsSigs (ShS w lo n) w lo n aa s.sigs
theorem ShY.of {w : World} {lo n : Nat} {v : Value} {s : TY} (h : IsFace w lo n v s) : ShY w lo n v s := by
  obtain ⟨aa, ca, hv, hz, ha⟩ := h
  exact ⟨_, aa, ca, hv, hz.2, ha.mono (fun v e he => ShS.of he) (fun _ _ _ => rfl) (Nat.le_refl _) (Nat.le_refl _)⟩
theorem ShY.ak {w w' : World} {lo n : Nat} (hm : Mk lo n w w') (c0 e0 c1 e1 : Value) (e : TY) (a0 : Ak c0 e0) (a1 : Ak c1 e1) (h : ShY w lo n (.agg #[c0, c1]) e) : ShY w' lo n (.agg #[e0, e1]) e := by
  obtain ⟨nm, aa, ca, hv, hz, ha⟩ := h
  simp only [Value.agg.injEq, Array.mk.injEq, List.cons.injEq] at hv
  obtain ⟨rfl, rfl, -⟩ := hv
  obtain ⟨nm', rfl⟩ := a0.str
  obtain rfl := a1.slice
  exact ⟨nm', aa, ca, rfl, hz, ha.ak hm (ShS.ak hm)⟩
end Go.Proofs.Ytkiaidjkhhljhaa
