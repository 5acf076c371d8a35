/- What marking leaves: the cells of the marked blocks are of the kinds that they were, those that hold slices as they were; all else is as it was. No conditions. And: The walk of markText. Conditions: the number is above 0 and below 10 to the 12. Shapes of rows that are marked: what is kept of them. No conditions. The walks of markTreeArgS, markIntS and markStringS on rows that may be written. Conditions: the row can be read, and may be written. The walks of markIntS, markStringS and markTreeExprS on rows that may be written. Conditions: the row can be read, and may be written. The walk of markTreeFunS on rows that may be written. Conditions: the row can be read, and may be written. Rows of numbers that a call made, and the walks of markIntS and heldIntS. Conditions: the row lies in a block of its own. The walks of markTreeMod on a module that may be written, and of markFaceSig and heldFaceSig. Conditions: the module can be read, and may be written. Lists of signatures as answers: each list in a block of its own; the walks of markFaceSigS and heldFaceSigS on them. Conditions: the lists lie apart. -/
import Derived.Test.YtffabnmgcicpiaaGreatG2
import Derived.Deep.RegionWith
namespace Go.Proofs.YtffabnmgcicpiaaGreat
open Go.RowKit Go.PlainAid

def dig (n : Nat) : UInt8 := UInt8.ofNat (48 + n)
theorem dig_toNat (n : Nat) (h : n ≤ 9) : (dig n).toNat = 48 + n := by
  unfold dig
  rw [UInt8.toNat_ofNat']
  exact Nat.mod_eq_of_lt (by omega)
theorem conv1 (W : World) (z : Int) (c : UInt8) (h : (c.toNat : Int) = z) : (convert 22 9 (.slice (some ⟨W.heap.size, 0, none⟩) 1 1)).run Tryz.prog (W.alloc (.cells #[.int .u8 z] 5)) = .ok (.string ⟨#[c]⟩) (W.alloc (.cells #[.int .u8 z] 5)) := by
  have h1 := run_convert_bytes_back (P := Tryz.prog) (W.alloc (.cells #[.int .u8 z] 5)) 22 9 5 ⟨W.heap.size, 0, none⟩ 1 [c] Tryz.underlying22 Tryz.underlying5 Tryz.underlying9 (fun j hj => by
    have : j = 0 := by simpa using hj
    subst this
    simp [Addr.add, h])
  simpa using h1
theorem cons_mk (c : UInt8) (acc : List UInt8) : (⟨#[c]⟩ ++ ⟨acc.toArray⟩ : ByteArray) = ⟨(c :: acc).toArray⟩ := by
  have := ByteArray.mk_append_mk [c] acc
  simpa using this
theorem ret_str {a b : ByteArray} (h : a = b) : Ending.returned (.string a) = .returned (.string b) := by rw [h]
def mtF : Nat → Nat → List UInt8 → List UInt8
  | 0, _, out => out
  | f + 1, n, out => if 0 < n then mtF f (n / 10) (dig (n % 10) :: out) else out
/-- The mark of a number. -/
def mt (n : Nat) : ByteArray := ⟨(109 :: mtF 20 n []).toArray⟩

theorem mtF_go {f m : Nat} {acc : List UInt8} (h : 0 < m) : mtF (f + 1) m acc = mtF f (m / 10) (dig (m % 10) :: acc) := by rw [mtF, if_pos h]
theorem mtF_end {f m : Nat} {acc : List UInt8} (h : ¬ 0 < m) : mtF (f + 1) m acc = acc := by rw [mtF, if_neg h]
theorem mt_step {f m : Nat} (h : m < 10 ^ (f + 1)) : m / 10 < 10 ^ f := by rw [Nat.pow_succ] at h; exact Nat.div_lt_of_lt_mul (by omega)

/-- Two cells of one kind; the same, if they are not numbers, texts or truths. -/
def Ak (x y : Value) : Prop := x = y ∨ (∃ i j, x = .int .i64 i ∧ y = .int .i64 j) ∨ (∃ s t, x = .string s ∧ y = .string t) ∨ ∃ b c, x = .bool b ∧ y = .bool c
theorem Ak.rfl (x : Value) : Ak x x := .inl (Eq.refl x)
theorem Ak.trans {x y z : Value} (h : Ak x y) (k : Ak y z) : Ak x z := by
  rcases h with rfl | ⟨i, j, rfl, rfl⟩ | ⟨i, j, rfl, rfl⟩ | ⟨i, j, rfl, rfl⟩
  · exact k
  · rcases k with rfl | ⟨a, b, h, rfl⟩ | ⟨a, b, h, rfl⟩ | ⟨a, b, h, rfl⟩
    · exact .inr (.inl ⟨_, _, Eq.refl _, Eq.refl _⟩)
    · exact .inr (.inl ⟨_, _, Eq.refl _, Eq.refl _⟩)
    · cases h
    · cases h
  · rcases k with rfl | ⟨a, b, h, rfl⟩ | ⟨a, b, h, rfl⟩ | ⟨a, b, h, rfl⟩
    · exact .inr (.inr (.inl ⟨_, _, Eq.refl _, Eq.refl _⟩))
    · cases h
    · exact .inr (.inr (.inl ⟨_, _, Eq.refl _, Eq.refl _⟩))
    · cases h
  · rcases k with rfl | ⟨a, b, h, rfl⟩ | ⟨a, b, h, rfl⟩ | ⟨a, b, h, rfl⟩
    · exact .inr (.inr (.inr ⟨_, _, Eq.refl _, Eq.refl _⟩))
    · cases h
    · cases h
    · exact .inr (.inr (.inr ⟨_, _, Eq.refl _, Eq.refl _⟩))
theorem Ak.int {i : Int} {y : Value} (h : Ak (.int .i64 i) y) : ∃ j, y = .int .i64 j := by
  rcases h with rfl | ⟨_, j, _, rfl⟩ | ⟨_, _, h, _⟩ | ⟨_, _, h, _⟩
  · exact ⟨_, Eq.refl _⟩
  · exact ⟨_, Eq.refl _⟩
  · cases h
  · cases h
theorem Ak.str {s : ByteArray} {y : Value} (h : Ak (.string s) y) : ∃ t, y = .string t := by
  rcases h with rfl | ⟨_, _, h, _⟩ | ⟨_, _, _, rfl⟩ | ⟨_, _, h, _⟩
  · exact ⟨_, Eq.refl _⟩
  · cases h
  · exact ⟨_, Eq.refl _⟩
  · cases h
theorem Ak.bool {s : Bool} {y : Value} (h : Ak (.bool s) y) : ∃ t, y = .bool t := by
  rcases h with rfl | ⟨_, _, h, _⟩ | ⟨_, _, h, _⟩ | ⟨_, _, _, rfl⟩
  · exact ⟨_, Eq.refl _⟩
  · cases h
  · cases h
  · exact ⟨_, Eq.refl _⟩
theorem Ak.slice {a : Option Addr} {l c : Nat} {y : Value} (h : Ak (.slice a l c) y) : y = .slice a l c := by
  rcases h with rfl | ⟨_, _, h, _⟩ | ⟨_, _, h, _⟩ | ⟨_, _, h, _⟩
  · exact Eq.refl _
  · cases h
  · cases h
  · cases h
/-- What marking in the blocks from lo on and below n leaves. -/
structure Mk (lo n : Nat) (w w' : World) : Prop where
  low : Below lo w w'
  high : ∀ b, n ≤ b → b < w.heap.size → w'.heap[b]? = w.heap[b]?
  al : ∀ b j v, lo ≤ b → b < n → w.cell? ⟨b, j, none⟩ = some v → ∃ v', w'.cell? ⟨b, j, none⟩ = some v' ∧ Ak v v'
  fz : ∀ b j, lo ≤ b → b < n → w'.frozen? ⟨b, j, none⟩ = w.frozen? ⟨b, j, none⟩
theorem Mk.refl (lo n : Nat) (w : World) : Mk lo n w w := ⟨Below.refl _ _, fun _ _ _ => rfl, fun _ _ v _ _ h => ⟨v, h, .rfl v⟩, fun _ _ _ _ => rfl⟩
theorem Mk.trans {lo n : Nat} {a b c : World} (h : Mk lo n a b) (k : Mk lo n b c) : Mk lo n a c := by
  refine ⟨h.low.trans k.low, fun x h1 h2 => ?_, fun x j v h1 h2 hv => ?_, fun x j h1 h2 => (k.fz x j h1 h2).trans (h.fz x j h1 h2)⟩
  · exact (k.high x h1 (Nat.lt_of_lt_of_le h2 h.low.size)).trans (h.high x h1 h2)
  · obtain ⟨v', hv', ha⟩ := h.al x j v h1 h2 hv
    obtain ⟨v'', hv'', hb⟩ := k.al x j v' h1 h2 hv'
    exact ⟨v'', hv'', ha.trans hb⟩
theorem Mk.below {lo n : Nat} {w w' : World} (h : Below w.heap.size w w') (hn : n ≤ w.heap.size) (hl : lo ≤ w.heap.size) : Mk lo n w w' :=
  ⟨h.mono hl, fun b _ hb => h.block b hb, fun b j v _ hb hv => ⟨v, (h.cell (p := ⟨b, j, none⟩) (Nat.lt_of_lt_of_le hb hn)).trans hv, .rfl v⟩, fun b j _ hb => h.frozen (p := ⟨b, j, none⟩) (Nat.lt_of_lt_of_le hb hn)⟩
theorem Mk.set {lo n B j : Nat} {w : World} {u v : Value} (hc : w.cell? ⟨B, j, none⟩ = some u) (ha : Ak u v) (hl : lo ≤ B) (hn : B < n) : Mk lo n w (w.setCell ⟨B, j, none⟩ v) := by
  refine ⟨(Below.refl _ _).setCell (p := ⟨B, j, none⟩) hl v, fun b hb _ => Below.heap_setCell _ _ _ _ (by simp; omega), fun b i x h1 h2 hx => ?_, fun b i _ _ => World.frozen?_setCell ..⟩
  by_cases e : b = B ∧ i = j
  · obtain ⟨rfl, rfl⟩ := e
    rw [hc] at hx
    cases hx
    exact ⟨v, cell_same _ _ _ _ (by rw [hc]; rfl), ha⟩
  · refine ⟨x, ?_, .rfl x⟩
    rw [World.cell?_setCell_other _ ⟨B, j, none⟩ ⟨b, i, none⟩ _ (by simp <;> omega)]
    exact hx
theorem Mk.size {lo n : Nat} {w w' : World} (h : Mk lo n w w') : w.heap.size ≤ w'.heap.size := h.low.size
/-- A block of the marked ones may be written. -/
def Fr (w : World) (lo n : Nat) : Prop := ∀ b j, lo ≤ b → b < n → w.frozen? ⟨b, j, none⟩ = false
theorem Fr.mk {w w' : World} {lo n : Nat} (h : Fr w lo n) (k : Mk lo n w w') : Fr w' lo n := fun b j h1 h2 => (k.fz b j h1 h2).trans (h b j h1 h2)
/-- The contract of a mark-walk: it counts on, at most m, and leaves what marking leaves. -/
def MkCalls (lo n : Nat) (f : FuncId) (v : Value) (k m : Nat) (w : World) : Prop :=
  Calls Tryz.prog f #[v, .int .i64 (k : Int)] w fun e w' => ∃ k' : Nat, e = .returned (.int .i64 (k' : Int)) ∧ k ≤ k' ∧ k' ≤ k + m ∧ Mk lo n w w'
end Go.Proofs.YtffabnmgcicpiaaGreat

namespace Go.Proofs.YtffabnmgcicpiaaGreat
open Go.RowKit Go.PlainAid

def sm {α : Type} (f : α → Nat) (l : List α) : Nat := (l.map f).sum
theorem sm_step {α : Type} (f : α → Nat) (xs : List α) (k : Nat) (h : k < xs.length) : sm f (xs.take (k + 1)) = sm f (xs.take k) + f xs[k] := by
  unfold sm; rw [List.take_succ_eq_append_getElem h, List.map_append, List.sum_append]; simp
theorem sm_le {α : Type} (f : α → Nat) (xs : List α) (k : Nat) : sm f (xs.take k) ≤ sm f xs := by
  have : sm f xs = sm f (xs.take k) + sm f (xs.drop k) := by
    unfold sm
    conv => lhs; rw [← List.take_append_drop k xs]
    rw [List.map_append, List.sum_append]
  omega
theorem IsKids.ak {R R' : Value → TE → Prop} {w w' : World} {lo n : Nat} {a : Option Addr} {xs : List TE} (h : IsKids R w lo n a xs) (hm : Mk lo n w w') (hR : ∀ c0 e0 c1 e1 c2 e2 c3 e3 c4 e4 e, Ak c0 e0 → Ak c1 e1 → Ak c2 e2 → Ak c3 e3 → Ak c4 e4 → R (.agg #[c0, c1, c2, c3, c4]) e → R' (.agg #[e0, e1, e2, e3, e4]) e) : IsKids R' w' lo n a xs := by
  rcases h with h | ⟨b, off, h1, h0, h2, h3⟩
  · exact .inl h
  · refine .inr ⟨b, off, h1, h0, h2, fun j hj => ?_⟩
    obtain ⟨c0, c1, c2, c3, c4, d0, d1, d2, d3, d4, hr⟩ := h3 j hj
    obtain ⟨e0, g0, a0⟩ := hm.al _ _ _ h0 h2 d0
    obtain ⟨e1, g1, a1⟩ := hm.al _ _ _ h0 h2 d1
    obtain ⟨e2, g2, a2⟩ := hm.al _ _ _ h0 h2 d2
    obtain ⟨e3, g3, a3⟩ := hm.al _ _ _ h0 h2 d3
    obtain ⟨e4, g4, a4⟩ := hm.al _ _ _ h0 h2 d4
    exact ⟨e0, e1, e2, e3, e4, g0, g1, g2, g3, g4, hR _ _ _ _ _ _ _ _ _ _ _ a0 a1 a2 a3 a4 hr⟩
theorem IsArgs.ak {R R' : Value → TA → Prop} {w w' : World} {lo n : Nat} {a : Option Addr} {xs : List TA} (h : IsArgs R w lo n a xs) (hm : Mk lo n w w') (hR : ∀ c0 e0 c1 e1 e, Ak c0 e0 → Ak c1 e1 → R (.agg #[c0, c1]) e → R' (.agg #[e0, e1]) e) : IsArgs R' w' lo n a xs := by
  rcases h with h | ⟨b, off, h1, h0, h2, h3⟩
  · exact .inl h
  · refine .inr ⟨b, off, h1, h0, h2, fun j hj => ?_⟩
    obtain ⟨c0, c1, d0, d1, hr⟩ := h3 j hj
    obtain ⟨e0, g0, a0⟩ := hm.al _ _ _ h0 h2 d0
    obtain ⟨e1, g1, a1⟩ := hm.al _ _ _ h0 h2 d1
    exact ⟨e0, e1, g0, g1, hR _ _ _ _ _ a0 a1 hr⟩
theorem IsFuns.ak {R R' : Value → TF → Prop} {w w' : World} {lo n : Nat} {a : Option Addr} {xs : List TF} (h : IsFuns R w lo n a xs) (hm : Mk lo n w w') (hR : ∀ c0 e0 c1 e1 c2 e2 c3 e3 c4 e4 c5 e5 c6 e6 c7 e7 c8 e8 e, Ak c0 e0 → Ak c1 e1 → Ak c2 e2 → Ak c3 e3 → Ak c4 e4 → Ak c5 e5 → Ak c6 e6 → Ak c7 e7 → Ak c8 e8 → R (.agg #[c0, c1, c2, c3, c4, c5, c6, c7, c8]) e → R' (.agg #[e0, e1, e2, e3, e4, e5, e6, e7, e8]) e) : IsFuns R' w' lo n a xs := by
  rcases h with h | ⟨b, off, h1, h0, h2, h3⟩
  · exact .inl h
  · refine .inr ⟨b, off, h1, h0, h2, fun j hj => ?_⟩
    obtain ⟨c0, c1, c2, c3, c4, c5, c6, c7, c8, d0, d1, d2, d3, d4, d5, d6, d7, d8, hr⟩ := h3 j hj
    obtain ⟨e0, g0, a0⟩ := hm.al _ _ _ h0 h2 d0
    obtain ⟨e1, g1, a1⟩ := hm.al _ _ _ h0 h2 d1
    obtain ⟨e2, g2, a2⟩ := hm.al _ _ _ h0 h2 d2
    obtain ⟨e3, g3, a3⟩ := hm.al _ _ _ h0 h2 d3
    obtain ⟨e4, g4, a4⟩ := hm.al _ _ _ h0 h2 d4
    obtain ⟨e5, g5, a5⟩ := hm.al _ _ _ h0 h2 d5
    obtain ⟨e6, g6, a6⟩ := hm.al _ _ _ h0 h2 d6
    obtain ⟨e7, g7, a7⟩ := hm.al _ _ _ h0 h2 d7
    obtain ⟨e8, g8, a8⟩ := hm.al _ _ _ h0 h2 d8
    exact ⟨e0, e1, e2, e3, e4, e5, e6, e7, e8, g0, g1, g2, g3, g4, g5, g6, g7, g8, hR _ _ _ _ _ _ _ _ _ _ _ _ _ _ _ _ _ _ _ a0 a1 a2 a3 a4 a5 a6 a7 a8 hr⟩
theorem IsSigs.ak {R R' : Value → TS → Prop} {w w' : World} {lo n : Nat} {a : Option Addr} {xs : List TS} (h : IsSigs R w lo n a xs) (hm : Mk lo n w w') (hR : ∀ c0 e0 c1 e1 c2 e2 e, Ak c0 e0 → Ak c1 e1 → Ak c2 e2 → R (.agg #[c0, c1, c2]) e → R' (.agg #[e0, e1, e2]) e) : IsSigs R' w' lo n a xs := by
  rcases h with h | ⟨b, off, h1, h0, h2, h3⟩
  · exact .inl h
  · refine .inr ⟨b, off, h1, h0, h2, fun j hj => ?_⟩
    obtain ⟨c0, c1, c2, d0, d1, d2, hr⟩ := h3 j hj
    obtain ⟨e0, g0, a0⟩ := hm.al _ _ _ h0 h2 d0
    obtain ⟨e1, g1, a1⟩ := hm.al _ _ _ h0 h2 d1
    obtain ⟨e2, g2, a2⟩ := hm.al _ _ _ h0 h2 d2
    exact ⟨e0, e1, e2, g0, g1, g2, hR _ _ _ _ _ _ _ a0 a1 a2 hr⟩
/-- Shapes. -/
def ShE (w : World) (lo n : Nat) : Nat → Value → TE → Prop
  | 0, _, _ => False
  | h + 1, v, .node _ _ _ _ kids => ∃ (k m : Int) (nm md : ByteArray) (a : Option Addr) (cap : Nat), v = .agg #[.int .i64 k, .int .i64 m, .string nm, .string md, .slice a kids.length cap] ∧ kids.length ≤ maxLen ∧ IsKids (ShE w lo n h) w lo n a kids
theorem ShE.of {w : World} {lo n : Nat} : ∀ (h : Nat) (v : Value) (e : TE), IsE w lo n h v e → ShE w lo n h v e
  | 0, _, _, hE => hE.elim
  | h + 1, v, .node k m nm md kids, hE => by
    obtain ⟨a, cap, hv, hz, hk⟩ := hE
    exact ⟨k, m, nm, md, a, cap, hv, hz.2.2, hk.mono (ShE.of h) (fun _ _ _ => rfl) (Nat.le_refl _) (Nat.le_refl _)⟩
theorem ShE.ak {w w' : World} {lo n : Nat} (hm : Mk lo n w w') : ∀ (h : Nat) (c0 e0 c1 e1 c2 e2 c3 e3 c4 e4 : Value) (e : TE), Ak c0 e0 → Ak c1 e1 → Ak c2 e2 → Ak c3 e3 → Ak c4 e4 → ShE w lo n h (.agg #[c0, c1, c2, c3, c4]) e → ShE w' lo n h (.agg #[e0, e1, e2, e3, e4]) e
  | 0, _, _, _, _, _, _, _, _, _, _, _, _, _, _, _, _, hE => hE.elim
  | h + 1, c0, e0, c1, e1, c2, e2, c3, e3, c4, e4, .node _ _ _ _ kids, a0, a1, a2, a3, a4, hE => by
    obtain ⟨k, m, nm, md, a, cap, hv, hz, hk⟩ := hE
    simp only [Value.agg.injEq, Array.mk.injEq, List.cons.injEq] at hv
    obtain ⟨rfl, rfl, rfl, rfl, rfl, -⟩ := hv
    obtain ⟨k', rfl⟩ := a0.int
    obtain ⟨m', rfl⟩ := a1.int
    obtain ⟨nm', rfl⟩ := a2.str
    obtain ⟨md', rfl⟩ := a3.str
    obtain rfl := a4.slice
    exact ⟨k', m', nm', md', a, cap, rfl, hz, hk.ak hm (fun c0 e0 c1 e1 c2 e2 c3 e3 c4 e4 e => ShE.ak hm h c0 e0 c1 e1 c2 e2 c3 e3 c4 e4 e)⟩
def ShA (v : Value) (_ : TA) : Prop := ∃ (nm : ByteArray) (t : Int), v = .agg #[.string nm, .int .i64 t]
theorem ShA.ak (c0 e0 c1 e1 : Value) (e : TA) (a0 : Ak c0 e0) (a1 : Ak c1 e1) (h : ShA (.agg #[c0, c1]) e) : ShA (.agg #[e0, e1]) e := by
  obtain ⟨nm, t, hv⟩ := h
  simp only [Value.agg.injEq, Array.mk.injEq, List.cons.injEq] at hv
  obtain ⟨rfl, rfl, -⟩ := hv
  obtain ⟨nm', rfl⟩ := a0.str
  obtain ⟨t', rfl⟩ := a1.int
  exact ⟨_, _, rfl⟩
def ShF (w : World) (lo n h : Nat) (v : Value) (f : TF) : Prop :=
  ∃ (nm : ByteArray) (p : Bool) (aa : Option Addr) (ca : Nat) (t : Int) (b0 b1 b2 b3 b4 : Value), v = .agg #[.string nm, .bool p, .slice aa f.args.length ca, .int .i64 t, b0, b1, b2, b3, b4] ∧ f.args.length ≤ maxLen ∧ IsArgs ShA w lo n aa f.args ∧ ShE w lo n h (.agg #[b0, b1, b2, b3, b4]) f.body
theorem ShF.ak {w w' : World} {lo n : Nat} (hm : Mk lo n w w') (h : Nat) (c0 e0 c1 e1 c2 e2 c3 e3 c4 e4 c5 e5 c6 e6 c7 e7 c8 e8 : Value) (e : TF) (a0 : Ak c0 e0) (a1 : Ak c1 e1) (a2 : Ak c2 e2) (a3 : Ak c3 e3) (a4 : Ak c4 e4) (a5 : Ak c5 e5) (a6 : Ak c6 e6) (a7 : Ak c7 e7) (a8 : Ak c8 e8)
    (hF : ShF w lo n h (.agg #[c0, c1, c2, c3, c4, c5, c6, c7, c8]) e) : ShF w' lo n h (.agg #[e0, e1, e2, e3, e4, e5, e6, e7, e8]) e := by
  obtain ⟨nm, p, aa, ca, t, b0, b1, b2, b3, b4, hv, hz, ha, hE⟩ := hF
  simp only [Value.agg.injEq, Array.mk.injEq, List.cons.injEq] at hv
  obtain ⟨rfl, rfl, rfl, rfl, rfl, rfl, rfl, rfl, rfl, -⟩ := hv
  obtain ⟨nm', rfl⟩ := a0.str
  obtain ⟨p', rfl⟩ := a1.bool
  obtain rfl := a2.slice
  obtain ⟨t', rfl⟩ := a3.int
  exact ⟨nm', p', aa, ca, t', e4, e5, e6, e7, e8, rfl, hz, ha.ak hm ShA.ak, ShE.ak hm h _ _ _ _ _ _ _ _ _ _ _ a4 a5 a6 a7 a8 hE⟩
theorem ShF.of {w : World} {lo n h : Nat} {v : Value} {f : TF} (hF : IsFun w lo n h v f) : ShF w lo n h v f := by
  obtain ⟨aa, ca, b0, b1, b2, b3, b4, hv, hz, ha, hE⟩ := hF
  exact ⟨_, _, aa, ca, _, b0, b1, b2, b3, b4, hv, hz.2, ha.mono (fun v e he => ⟨_, _, he.1⟩) (fun _ _ _ => rfl) (Nat.le_refl _) (Nat.le_refl _), ShE.of h _ _ hE⟩
def ShI (w : World) (lo n : Nat) (a : Option Addr) (m : Nat) : Prop := m = 0 ∨ ∃ b off : Nat, a = some ⟨b, off, none⟩ ∧ lo ≤ b ∧ b < n ∧ ∀ j, j < m → ∃ x, w.cell? ⟨b, off + j, none⟩ = some (.int .i64 x)
theorem ShI.of {w : World} {lo n : Nat} {a : Option Addr} {zs : List Int} (h : IsInts w lo n a zs) : ShI w lo n a zs.length := by
  rcases h with rfl | ⟨b, off, h1, h0, h2, h3⟩
  · exact .inl rfl
  · exact .inr ⟨b, off, h1, h0, h2, fun j hj => ⟨_, h3 j hj⟩⟩
theorem ShI.ak {w w' : World} {lo n : Nat} {a : Option Addr} {m : Nat} (h : ShI w lo n a m) (hm : Mk lo n w w') : ShI w' lo n a m := by
  rcases h with h | ⟨b, off, h1, h0, h2, h3⟩
  · exact .inl h
  · refine .inr ⟨b, off, h1, h0, h2, fun j hj => ?_⟩
    obtain ⟨x, hx⟩ := h3 j hj
    obtain ⟨v, hv, ha⟩ := hm.al _ _ _ h0 h2 hx
    obtain ⟨y, rfl⟩ := ha.int
    exact ⟨y, hv⟩
def ShW (w : World) (lo n : Nat) (a : Option Addr) (m : Nat) : Prop := m = 0 ∨ ∃ b off : Nat, a = some ⟨b, off, none⟩ ∧ lo ≤ b ∧ b < n ∧ ∀ j, j < m → ∃ x, w.cell? ⟨b, off + j, none⟩ = some (.string x)
theorem ShW.of {w : World} {lo n : Nat} {a : Option Addr} {zs : List ByteArray} (h : IsWds w lo n a zs) : ShW w lo n a zs.length := by
  rcases h with rfl | ⟨b, off, h1, h0, h2, h3⟩
  · exact .inl rfl
  · exact .inr ⟨b, off, h1, h0, h2, fun j hj => ⟨_, h3 j hj⟩⟩
theorem ShW.ak {w w' : World} {lo n : Nat} {a : Option Addr} {m : Nat} (h : ShW w lo n a m) (hm : Mk lo n w w') : ShW w' lo n a m := by
  rcases h with h | ⟨b, off, h1, h0, h2, h3⟩
  · exact .inl h
  · refine .inr ⟨b, off, h1, h0, h2, fun j hj => ?_⟩
    obtain ⟨x, hx⟩ := h3 j hj
    obtain ⟨v, hv, ha⟩ := hm.al _ _ _ h0 h2 hx
    obtain ⟨y, rfl⟩ := ha.str
    exact ⟨y, hv⟩
def ShS (w : World) (lo n : Nat) (v : Value) (s : TS) : Prop := ∃ (nm : ByteArray) (aa : Option Addr) (ca : Nat) (t : Int), v = .agg #[.string nm, .slice aa s.args.length ca, .int .i64 t] ∧ s.args.length ≤ maxLen ∧ ShI w lo n aa s.args.length
theorem ShS.of {w : World} {lo n : Nat} {v : Value} {s : TS} (h : IsSig w lo n v s) : ShS w lo n v s := by
  obtain ⟨aa, ca, hv, hz, ha⟩ := h
  exact ⟨_, aa, ca, _, hv, hz.2, ShI.of ha⟩
theorem ShS.ak {w w' : World} {lo n : Nat} (hm : Mk lo n w w') (c0 e0 c1 e1 c2 e2 : Value) (e : TS) (a0 : Ak c0 e0) (a1 : Ak c1 e1) (a2 : Ak c2 e2) (h : ShS w lo n (.agg #[c0, c1, c2]) e) : ShS w' lo n (.agg #[e0, e1, e2]) e := by
  obtain ⟨nm, aa, ca, t, hv, hz, ha⟩ := h
  simp only [Value.agg.injEq, Array.mk.injEq, List.cons.injEq] at hv
  obtain ⟨rfl, rfl, rfl, -⟩ := hv
  obtain ⟨nm', rfl⟩ := a0.str
  obtain rfl := a1.slice
  obtain ⟨t', rfl⟩ := a2.int
  exact ⟨nm', aa, ca, t', rfl, hz, ha.ak hm⟩
end Go.Proofs.YtffabnmgcicpiaaGreat

namespace Go.Proofs.YtffabnmgcicpiaaGreat
open Go.RowKit Go.PlainAid

theorem mk_text {lo n : Nat} {w w' : World} (h : Below w.heap.size w w') (hn : n ≤ w.heap.size) (hl : lo ≤ n) : Mk lo n w w' := Mk.below h hn (Nat.le_trans hl hn)
theorem akI (i j : Int) : Ak (.int .i64 i) (.int .i64 j) := .inr (.inl ⟨_, _, rfl, rfl⟩)
theorem akS (i j : ByteArray) : Ak (.string i) (.string j) := .inr (.inr (.inl ⟨_, _, rfl, rfl⟩))
theorem akB (i j : Bool) : Ak (.bool i) (.bool j) := .inr (.inr (.inr ⟨_, _, rfl, rfl⟩))

end Go.Proofs.YtffabnmgcicpiaaGreat

namespace Go.Proofs.YtffabnmgcicpiaaGreat
open Go.RowKit Go.PlainAid

end Go.Proofs.YtffabnmgcicpiaaGreat

namespace Go.Proofs.YtffabnmgcicpiaaGreat
open Go.RowKit Go.PlainAid

def mF (f : TF) : Nat := 3 + f.args.length * 2 + 4 * f.body.nodes
end Go.Proofs.YtffabnmgcicpiaaGreat

namespace Go.Proofs.YtffabnmgcicpiaaGreat
open Go.RowKit Go.PlainAid

/-- A value that is a row of numbers in a block of its own, from lo on and below n, that may be written. -/
def OwnI (w : World) (lo n : Nat) (v : Value) (zs : List Int) : Prop :=
  ∃ (a : Option Addr) (cap : Nat), v = .slice a zs.length cap ∧ (zs = [] ∨ ∃ b : Nat, a = some ⟨b, 0, none⟩ ∧ lo ≤ b ∧ b < n ∧ (∀ j (hj : j < zs.length), w.cell? ⟨b, j, none⟩ = some (.int .i64 zs[j])) ∧ ∀ j, w.frozen? ⟨b, j, none⟩ = false)
theorem OwnI.same {w w' : World} {lo n lo' n' : Nat} {v : Value} {zs : List Int} (h : OwnI w lo n v zs) (hb : ∀ b, lo ≤ b → b < n → (∀ j, w'.cell? ⟨b, j, none⟩ = w.cell? ⟨b, j, none⟩) ∧ ∀ j, w'.frozen? ⟨b, j, none⟩ = w.frozen? ⟨b, j, none⟩) (hl : lo' ≤ lo) (hn : n ≤ n') : OwnI w' lo' n' v zs := by
  obtain ⟨a, cap, hv, h⟩ := h
  refine ⟨a, cap, hv, ?_⟩
  rcases h with h | ⟨b, h1, h2, h3, h4, h5⟩
  · exact .inl h
  · exact .inr ⟨b, h1, by omega, by omega, fun j hj => ((hb b h2 h3).1 j).trans (h4 j hj), fun j => ((hb b h2 h3).2 j).trans (h5 j)⟩
theorem OwnI.kept {w w' : World} {lo n m : Nat} {v : Value} {zs : List Int} (h : OwnI w lo n v zs) (hb : Below n w w') (hm : n ≤ m) : OwnI w' lo m v zs :=
  h.same (fun b _ hbn => ⟨fun j => hb.cell (p := ⟨b, j, none⟩) hbn, fun j => hb.frozen (p := ⟨b, j, none⟩) hbn⟩) (Nat.le_refl _) hm
theorem OwnI.ints {w : World} {lo n : Nat} {v : Value} {zs : List Int} (h : OwnI w lo n v zs) : ∃ (a : Option Addr) (cap : Nat), v = .slice a zs.length cap ∧ IsInts w lo n a zs := by
  obtain ⟨a, cap, hv, h⟩ := h
  refine ⟨a, cap, hv, ?_⟩
  rcases h with h | ⟨b, h1, h2, h3, h4, h5⟩
  · exact .inl h
  · exact .inr ⟨b, 0, h1, h2, h3, fun j hj => by rw [Nat.zero_add]; exact h4 j hj⟩

/-- The marks from k on. -/
def marksI (k n : Nat) : List Int := (List.range n).map fun i => ((k + i : Nat) : Int)
theorem marksI_len (k n : Nat) : (marksI k n).length = n := by simp [marksI]
theorem marksI_at (k n j : Nat) (h : j < (marksI k n).length) : (marksI k n)[j] = ((k + j : Nat) : Int) := by simp [marksI]

end Go.Proofs.YtffabnmgcicpiaaGreat

namespace Go.Proofs.YtffabnmgcicpiaaGreat
open Go.RowKit Go.PlainAid

theorem below_newM (w : World) (o : Obj) : Below w.heap.size w (w.alloc o) := (Below.refl _ _).alloc (Nat.le_refl _) _
theorem Blk.high {w w' : World} {B lo n : Nat} {C : List Value} (h : Blk w B C) (hm : Mk lo n w w') (hB : n ≤ B) (hw : B < w.heap.size) : Blk w' B C :=
  ⟨fun i => (World.cell?_of_block (w := w) (a := ⟨B, i, none⟩) (hm.high B hB hw)).trans (h.1 i), fun i => (World.frozen?_of_block (w := w) (a := ⟨B, i, none⟩) (hm.high B hB hw)).trans (h.2 i)⟩
def mM (m : TM) : Nat := m.uses.length + sm mF m.funs + 4 * nodesL m.main
end Go.Proofs.YtffabnmgcicpiaaGreat

namespace Go.Proofs.YtffabnmgcicpiaaGreat
open Go.RowKit Go.PlainAid

/-- A row of signatures in the block b, its numbers in blocks of their own. -/
structure LL (w : World) (b : Nat) (vs : Nat → Value) (bs : Nat → Nat) (l : List TS) : Prop where
  free : ∀ j, w.frozen? ⟨b, j, none⟩ = false
  c0 : ∀ j (hj : j < l.length), w.cell? ⟨b, j * 3, none⟩ = some (.string l[j].name)
  c1 : ∀ j, j < l.length → w.cell? ⟨b, j * 3 + 1, none⟩ = some (vs j)
  c2 : ∀ j (hj : j < l.length), w.cell? ⟨b, j * 3 + 2, none⟩ = some (.int .i64 l[j].type)
  own : ∀ j (hj : j < l.length), OwnI w (bs j) (bs j + 1) (vs j) l[j].args
/-- The blocks lie apart. -/
structure Apart (lo n b : Nat) (bs : Nat → Nat) (m : Nat) : Prop where
  b0 : lo ≤ b ∧ b < n
  bj : ∀ j, j < m → lo ≤ bs j ∧ bs j < n ∧ bs j ≠ b
  ne : ∀ i j, i < m → j < m → i ≠ j → bs i ≠ bs j
theorem LL.move {w w' : World} {lo n b m : Nat} {vs : Nat → Value} {bs : Nat → Nat} {l : List TS} (h : LL w b vs bs l) (ha : Apart lo n b bs m) (hm : l.length ≤ m) (hb : ∀ x, lo ≤ x → x < n → w'.heap[x]? = w.heap[x]?) : LL w' b vs bs l := by
  have hc : ∀ i, w'.cell? ⟨b, i, none⟩ = w.cell? ⟨b, i, none⟩ := fun i => World.cell?_of_block (w := w) (hb b ha.b0.1 ha.b0.2)
  have hf : ∀ i, w'.frozen? ⟨b, i, none⟩ = w.frozen? ⟨b, i, none⟩ := fun i => World.frozen?_of_block (w := w) (hb b ha.b0.1 ha.b0.2)
  refine ⟨fun j => (hf j).trans (h.free j), fun j hj => (hc _).trans (h.c0 j hj), fun j hj => (hc _).trans (h.c1 j hj), fun j hj => (hc _).trans (h.c2 j hj), fun j hj => ?_⟩
  have hx := ha.bj j (by omega)
  refine (h.own j hj).same (fun x h1 h2 => ?_) (Nat.le_refl _) (Nat.le_refl _)
  have hk := hb x (by omega) (by omega)
  exact ⟨fun i => World.cell?_of_block (w := w) (a := ⟨x, i, none⟩) hk, fun i => World.frozen?_of_block (w := w) (a := ⟨x, i, none⟩) hk⟩
theorem LL.kept {w w' : World} {lo n b m : Nat} {vs : Nat → Value} {bs : Nat → Nat} {l : List TS} (h : LL w b vs bs l) (ha : Apart lo n b bs m) (hm : l.length ≤ m) (hb : Below n w w') : LL w' b vs bs l := h.move ha hm (fun x _ hx => hb.block x hx)
theorem LL.sigs {w : World} {lo n b m : Nat} {vs : Nat → Value} {bs : Nat → Nat} {l : List TS} (h : LL w b vs bs l) (ha : Apart lo n b bs m) (hm : l.length ≤ m) (hn : n ≤ w.heap.size) (hs : ∀ s ∈ l, s.name.size ≤ maxLen ∧ s.args.length ≤ maxLen) : IsSigs (IsSig w lo w.heap.size) w lo w.heap.size (some ⟨b, 0, none⟩) l := by
  refine .inr ⟨b, 0, rfl, ha.b0.1, by have := ha.b0.2; omega, fun j hj => ?_⟩
  rw [Nat.zero_add]
  refine ⟨_, _, _, h.c0 j hj, h.c1 j hj, h.c2 j hj, ?_⟩
  obtain ⟨a, cap, hv, hI⟩ := (h.own j hj).ints
  have hx := ha.bj j (by omega)
  exact ⟨a, cap, by rw [hv], hs _ (List.getElem_mem hj), hI.same (fun _ _ _ => rfl) hx.1 (by omega)⟩
/-- How many marks a signature takes. -/
def mG (s : TS) : Nat := 2 + s.args.length
/-- The signature at a place, marked. -/
def mkAt (k0 : Nat) (l : List TS) (i : Nat) : TS := ⟨mt (k0 + sm mG (l.take i)), marksI (k0 + sm mG (l.take i) + 1) ((l.getD i ⟨⟨#[]⟩, [], 0⟩).args.length), ((k0 + sm mG (l.take i) + 1 + (l.getD i ⟨⟨#[]⟩, [], 0⟩).args.length : Nat) : Int)⟩
theorem LL.step {w w' : World} {lo n b m : Nat} {vs : Nat → Value} {bs : Nat → Nat} {l : List TS} {j : Nat} {x : TS} (h : LL w b vs bs l) (ha : Apart lo n b bs m) (hm : l.length ≤ m) (hj : j < l.length)
    (hf : ∀ i, w'.frozen? ⟨b, i, none⟩ = w.frozen? ⟨b, i, none⟩) (h0 : w'.cell? ⟨b, j * 3, none⟩ = some (.string x.name)) (h1 : w'.cell? ⟨b, j * 3 + 1, none⟩ = w.cell? ⟨b, j * 3 + 1, none⟩) (h2 : w'.cell? ⟨b, j * 3 + 2, none⟩ = some (.int .i64 x.type))
    (hc : ∀ i, (i < j * 3 ∨ j * 3 + 3 ≤ i) → w'.cell? ⟨b, i, none⟩ = w.cell? ⟨b, i, none⟩) (hb : ∀ y, y ≠ b → y ≠ bs j → y < n → w'.heap[y]? = w.heap[y]?) (ho : OwnI w' (bs j) (bs j + 1) (vs j) x.args) : LL w' b vs bs (l.set j x) := by
  refine ⟨fun i => (hf i).trans (h.free i), fun i hi => ?_, fun i hi => ?_, fun i hi => ?_, fun i hi => ?_⟩
  all_goals rw [List.length_set] at hi
  · rw [List.getElem_set]
    split
    · next e => subst e; exact h0
    · next e => exact (hc _ (by omega)).trans (h.c0 i hi)
  · by_cases e : j = i
    · subst e; exact h1.trans (h.c1 j hi)
    · exact (hc _ (by omega)).trans (h.c1 i hi)
  · rw [List.getElem_set]
    split
    · next e => subst e; exact h2
    · next e => exact (hc _ (by omega)).trans (h.c2 i hi)
  · by_cases e : j = i
    · subst e; simpa using ho
    · rw [List.getElem_set_ne e]
      have hx := ha.bj i (by omega)
      refine (h.own i hi).same (fun y g1 g2 => ?_) (Nat.le_refl _) (Nat.le_refl _)
      have hy : y = bs i := by omega
      subst hy
      have hk := hb (bs i) hx.2.2 (ha.ne i j (by omega) (by omega) (fun h => e h.symm)) hx.2.1
      exact ⟨fun q => World.cell?_of_block (w := w) (a := ⟨bs i, q, none⟩) hk, fun q => World.frozen?_of_block (w := w) (a := ⟨bs i, q, none⟩) hk⟩

end Go.Proofs.YtffabnmgcicpiaaGreat
