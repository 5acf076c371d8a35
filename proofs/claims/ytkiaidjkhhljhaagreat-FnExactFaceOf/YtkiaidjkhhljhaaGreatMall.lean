/- What marking leaves: the cells of the marked blocks are of the kinds that they were, those that hold slices as they were; all else is as it was. No conditions. And: The walk of markText. Conditions: the number is above 0 and below 10 to the 12. Shapes of rows that are marked: what is kept of them. No conditions. The walks of markTreeArgS, markIntS and markStringS on rows that may be written. Conditions: the row can be read, and may be written. The walks of markIntS, markStringS and markTreeExprS on rows that may be written. Conditions: the row can be read, and may be written. The walk of markTreeFunS on rows that may be written. Conditions: the row can be read, and may be written. The walks of markTreeMod on a module that may be written, and of markFaceSig and heldFaceSig. Conditions: the module can be read, and may be written. -/
import Derived.Test.YtkiaidjkhhljhaaGreatFa
import Derived.Test.YtkiaidjkhhljhaaGreatFe
import Derived.Test.YtkiaidjkhhljhaaGreatHa
namespace Go.Proofs.YtkiaidjkhhljhaaGreat
open Go.RowKit Go.PlainAid

def dig (n : Nat) : UInt8 := UInt8.ofNat (48 + n)
theorem dig_toNat (n : Nat) (h : n ≤ 9) : (dig n).toNat = 48 + n := by
  unfold dig
  rw [UInt8.toNat_ofNat']
  exact Nat.mod_eq_of_lt (by omega)
theorem conv1 (W : World) (z : Int) (c : UInt8) (h : (c.toNat : Int) = z) : (convert 22 9 (.slice (some ⟨W.heap.size, 0, none⟩) 1 1)).run Tryz.prog (W.alloc (.cells #[.int .u8 z] 5)) = .ok (.string ⟨#[c]⟩) (W.alloc (.cells #[.int .u8 z] 5)) := by
  have h1 := run_convert_bytes_back (P := Tryz.prog) (W.alloc (.cells #[.int .u8 z] 5)) 22 9 5 ⟨W.heap.size, 0, none⟩ 1 [c] Tryz.underlying22 Tryz.underlying5 Tryz.underlying9 (fun j hj => by
    have : j = 0 := by simpa using hj
    subst this
    simp [Addr.add, h])
  simpa using h1
theorem cons_mk (c : UInt8) (acc : List UInt8) : (⟨#[c]⟩ ++ ⟨acc.toArray⟩ : ByteArray) = ⟨(c :: acc).toArray⟩ := by
  have := ByteArray.mk_append_mk [c] acc
  simpa using this
theorem ret_str {a b : ByteArray} (h : a = b) : Ending.returned (.string a) = .returned (.string b) := by rw [h]
def mtF : Nat → Nat → List UInt8 → List UInt8
  | 0, _, out => out
  | f + 1, n, out => if 0 < n then mtF f (n / 10) (dig (n % 10) :: out) else out
/-- The mark of a number. -/
def mt (n : Nat) : ByteArray := ⟨(109 :: mtF 20 n []).toArray⟩

theorem mtF_go {f m : Nat} {acc : List UInt8} (h : 0 < m) : mtF (f + 1) m acc = mtF f (m / 10) (dig (m % 10) :: acc) := by rw [mtF, if_pos h]
theorem mtF_end {f m : Nat} {acc : List UInt8} (h : ¬ 0 < m) : mtF (f + 1) m acc = acc := by rw [mtF, if_neg h]
theorem mt_step {f m : Nat} (h : m < 10 ^ (f + 1)) : m / 10 < 10 ^ f := by rw [Nat.pow_succ] at h; exact Nat.div_lt_of_lt_mul (by omega)

set_option maxHeartbeats 400000 in
theorem markText_any (N : Nat) (h0 : 0 < N) (hN : N < 1000000000000) (w : World) :
    Calls Tryz.prog 54 #[.int .i64 N] w fun e w' => e = .returned (.string (mt N)) ∧ Below w.heap.size w w' := by
  go_enter Tryz.func54, Tryz.ntmps54
  go_wp2
  go_loopw [0, 3] (fun n o wr => ∃ (f m : Nat) (acc : List UInt8), n = .int .i64 m ∧ o = .string ⟨acc.toArray⟩ ∧ Hid (mtF (f + 1) m acc = mtF 20 N []) ∧ Hid (m < 10 ^ f) ∧ m < 1000000000000 ∧ acc.length + f ≤ 19 ∧ Hid (Below w.heap.size w wr)) (fun n _ _ => (intOf n).toNat)
  case atStart => exact ⟨19, N, [], rfl, rfl, hide rfl, hide (by omega), hN, by simp, hide (Below.refl _ _)⟩
  case round =>
    obtain ⟨f, m, acc, rfl, rfl, HF, HM, hm, hlf, HB⟩ := hrel
    have hl : acc.length ≤ 100 := by omega
    by_cases h9 : 0 < m
    · have hcv := fun W => conv1 W (48 + (m : Int) % 10) (dig (m % 10)) (by rw [dig_toNat _ (by omega)]; omega)
      cases f with
      | zero =>
        have := unhide HM
        simp at this
        omega
      | succ f =>
        have HG := hide (mt_step (unhide HM))
        have HE := hide (mtF_go (f := f + 1) (acc := acc) h9)
        go_wp2
        go_roundw
        case rel =>
          refine ⟨f, m / 10, dig (m % 10) :: acc, by go_num, by rw [cons_mk], hide ?_, HG, by omega, by simp; omega, hide ((unhide HB).alloc (unhide HB).size _)⟩
          rw [← unhide HE]; exact unhide HF
        case measure => simp [intOf]; omega
    · have HE : Hid (mt N = ⟨(109 :: acc).toArray⟩) := hide (by unfold mt; rw [← unhide HF, mtF_end h9])
      go_wp2
      go_ret
      exact ⟨ret_str (by rw [unhide HE]; exact cons_mk 109 acc), unhide HB⟩

/-- Two cells of one kind; the same, if they are not numbers, texts or truths. -/
def Ak (x y : Value) : Prop := x = y ∨ (∃ i j, x = .int .i64 i ∧ y = .int .i64 j) ∨ (∃ s t, x = .string s ∧ y = .string t) ∨ ∃ b c, x = .bool b ∧ y = .bool c
theorem Ak.rfl (x : Value) : Ak x x := .inl (Eq.refl x)
theorem Ak.trans {x y z : Value} (h : Ak x y) (k : Ak y z) : Ak x z := by
  rcases h with rfl | ⟨i, j, rfl, rfl⟩ | ⟨i, j, rfl, rfl⟩ | ⟨i, j, rfl, rfl⟩
  · exact k
  · rcases k with rfl | ⟨a, b, h, rfl⟩ | ⟨a, b, h, rfl⟩ | ⟨a, b, h, rfl⟩
    · exact .inr (.inl ⟨_, _, Eq.refl _, Eq.refl _⟩)
    · exact .inr (.inl ⟨_, _, Eq.refl _, Eq.refl _⟩)
    · cases h
    · cases h
  · rcases k with rfl | ⟨a, b, h, rfl⟩ | ⟨a, b, h, rfl⟩ | ⟨a, b, h, rfl⟩
    · exact .inr (.inr (.inl ⟨_, _, Eq.refl _, Eq.refl _⟩))
    · cases h
    · exact .inr (.inr (.inl ⟨_, _, Eq.refl _, Eq.refl _⟩))
    · cases h
  · rcases k with rfl | ⟨a, b, h, rfl⟩ | ⟨a, b, h, rfl⟩ | ⟨a, b, h, rfl⟩
    · exact .inr (.inr (.inr ⟨_, _, Eq.refl _, Eq.refl _⟩))
    · cases h
    · cases h
    · exact .inr (.inr (.inr ⟨_, _, Eq.refl _, Eq.refl _⟩))
theorem Ak.int {i : Int} {y : Value} (h : Ak (.int .i64 i) y) : ∃ j, y = .int .i64 j := by
  rcases h with rfl | ⟨_, j, _, rfl⟩ | ⟨_, _, h, _⟩ | ⟨_, _, h, _⟩
  · exact ⟨_, Eq.refl _⟩
  · exact ⟨_, Eq.refl _⟩
  · cases h
  · cases h
theorem Ak.str {s : ByteArray} {y : Value} (h : Ak (.string s) y) : ∃ t, y = .string t := by
  rcases h with rfl | ⟨_, _, h, _⟩ | ⟨_, _, _, rfl⟩ | ⟨_, _, h, _⟩
  · exact ⟨_, Eq.refl _⟩
  · cases h
  · exact ⟨_, Eq.refl _⟩
  · cases h
theorem Ak.bool {s : Bool} {y : Value} (h : Ak (.bool s) y) : ∃ t, y = .bool t := by
  rcases h with rfl | ⟨_, _, h, _⟩ | ⟨_, _, h, _⟩ | ⟨_, _, _, rfl⟩
  · exact ⟨_, Eq.refl _⟩
  · cases h
  · cases h
  · exact ⟨_, Eq.refl _⟩
theorem Ak.slice {a : Option Addr} {l c : Nat} {y : Value} (h : Ak (.slice a l c) y) : y = .slice a l c := by
  rcases h with rfl | ⟨_, _, h, _⟩ | ⟨_, _, h, _⟩ | ⟨_, _, h, _⟩
  · exact Eq.refl _
  · cases h
  · cases h
  · cases h
/-- What marking in the blocks from lo on and below n leaves. -/
structure Mk (lo n : Nat) (w w' : World) : Prop where
  low : Below lo w w'
  high : ∀ b, n ≤ b → b < w.heap.size → w'.heap[b]? = w.heap[b]?
  al : ∀ b j v, lo ≤ b → b < n → w.cell? ⟨b, j, none⟩ = some v → ∃ v', w'.cell? ⟨b, j, none⟩ = some v' ∧ Ak v v'
  fz : ∀ b j, lo ≤ b → b < n → w'.frozen? ⟨b, j, none⟩ = w.frozen? ⟨b, j, none⟩
theorem Mk.refl (lo n : Nat) (w : World) : Mk lo n w w := ⟨Below.refl _ _, fun _ _ _ => rfl, fun _ _ v _ _ h => ⟨v, h, .rfl v⟩, fun _ _ _ _ => rfl⟩
theorem Mk.trans {lo n : Nat} {a b c : World} (h : Mk lo n a b) (k : Mk lo n b c) : Mk lo n a c := by
  refine ⟨h.low.trans k.low, fun x h1 h2 => ?_, fun x j v h1 h2 hv => ?_, fun x j h1 h2 => (k.fz x j h1 h2).trans (h.fz x j h1 h2)⟩
  · exact (k.high x h1 (Nat.lt_of_lt_of_le h2 h.low.size)).trans (h.high x h1 h2)
  · obtain ⟨v', hv', ha⟩ := h.al x j v h1 h2 hv
    obtain ⟨v'', hv'', hb⟩ := k.al x j v' h1 h2 hv'
    exact ⟨v'', hv'', ha.trans hb⟩
theorem Mk.below {lo n : Nat} {w w' : World} (h : Below w.heap.size w w') (hn : n ≤ w.heap.size) (hl : lo ≤ w.heap.size) : Mk lo n w w' :=
  ⟨h.mono hl, fun b _ hb => h.block b hb, fun b j v _ hb hv => ⟨v, (h.cell (p := ⟨b, j, none⟩) (Nat.lt_of_lt_of_le hb hn)).trans hv, .rfl v⟩, fun b j _ hb => h.frozen (p := ⟨b, j, none⟩) (Nat.lt_of_lt_of_le hb hn)⟩
theorem Mk.set {lo n B j : Nat} {w : World} {u v : Value} (hc : w.cell? ⟨B, j, none⟩ = some u) (ha : Ak u v) (hl : lo ≤ B) (hn : B < n) : Mk lo n w (w.setCell ⟨B, j, none⟩ v) := by
  refine ⟨(Below.refl _ _).setCell (p := ⟨B, j, none⟩) hl v, fun b hb _ => Below.heap_setCell _ _ _ _ (by simp; omega), fun b i x h1 h2 hx => ?_, fun b i _ _ => World.frozen?_setCell ..⟩
  by_cases e : b = B ∧ i = j
  · obtain ⟨rfl, rfl⟩ := e
    rw [hc] at hx
    cases hx
    exact ⟨v, cell_same _ _ _ _ (by rw [hc]; rfl), ha⟩
  · refine ⟨x, ?_, .rfl x⟩
    rw [World.cell?_setCell_other _ ⟨B, j, none⟩ ⟨b, i, none⟩ _ (by simp <;> omega)]
    exact hx
theorem Mk.size {lo n : Nat} {w w' : World} (h : Mk lo n w w') : w.heap.size ≤ w'.heap.size := h.low.size
/-- A block of the marked ones may be written. -/
def Fr (w : World) (lo n : Nat) : Prop := ∀ b j, lo ≤ b → b < n → w.frozen? ⟨b, j, none⟩ = false
theorem Fr.mk {w w' : World} {lo n : Nat} (h : Fr w lo n) (k : Mk lo n w w') : Fr w' lo n := fun b j h1 h2 => (k.fz b j h1 h2).trans (h b j h1 h2)
/-- The contract of a mark-walk: it counts on, at most m, and leaves what marking leaves. -/
def MkCalls (lo n : Nat) (f : FuncId) (v : Value) (k m : Nat) (w : World) : Prop :=
  Calls Tryz.prog f #[v, .int .i64 (k : Int)] w fun e w' => ∃ k' : Nat, e = .returned (.int .i64 (k' : Int)) ∧ k ≤ k' ∧ k' ≤ k + m ∧ Mk lo n w w'
end Go.Proofs.YtkiaidjkhhljhaaGreat

namespace Go.Proofs.YtkiaidjkhhljhaaGreat
open Go.RowKit Go.PlainAid

def sm {α : Type} (f : α → Nat) (l : List α) : Nat := (l.map f).sum
theorem sm_step {α : Type} (f : α → Nat) (xs : List α) (k : Nat) (h : k < xs.length) : sm f (xs.take (k + 1)) = sm f (xs.take k) + f xs[k] := by
  unfold sm; rw [List.take_succ_eq_append_getElem h, List.map_append, List.sum_append]; simp
theorem sm_le {α : Type} (f : α → Nat) (xs : List α) (k : Nat) : sm f (xs.take k) ≤ sm f xs := by
  have : sm f xs = sm f (xs.take k) + sm f (xs.drop k) := by
    unfold sm
    conv => lhs; rw [← List.take_append_drop k xs]
    rw [List.map_append, List.sum_append]
  omega
theorem IsKids.ak {R R' : Value → TE → Prop} {w w' : World} {lo n : Nat} {a : Option Addr} {xs : List TE} (h : IsKids R w lo n a xs) (hm : Mk lo n w w') (hR : ∀ c0 e0 c1 e1 c2 e2 c3 e3 c4 e4 e, Ak c0 e0 → Ak c1 e1 → Ak c2 e2 → Ak c3 e3 → Ak c4 e4 → R (.agg #[c0, c1, c2, c3, c4]) e → R' (.agg #[e0, e1, e2, e3, e4]) e) : IsKids R' w' lo n a xs := by
  rcases h with h | ⟨b, off, h1, h0, h2, h3⟩
  · exact .inl h
  · refine .inr ⟨b, off, h1, h0, h2, fun j hj => ?_⟩
    obtain ⟨c0, c1, c2, c3, c4, d0, d1, d2, d3, d4, hr⟩ := h3 j hj
    obtain ⟨e0, g0, a0⟩ := hm.al _ _ _ h0 h2 d0
    obtain ⟨e1, g1, a1⟩ := hm.al _ _ _ h0 h2 d1
    obtain ⟨e2, g2, a2⟩ := hm.al _ _ _ h0 h2 d2
    obtain ⟨e3, g3, a3⟩ := hm.al _ _ _ h0 h2 d3
    obtain ⟨e4, g4, a4⟩ := hm.al _ _ _ h0 h2 d4
    exact ⟨e0, e1, e2, e3, e4, g0, g1, g2, g3, g4, hR _ _ _ _ _ _ _ _ _ _ _ a0 a1 a2 a3 a4 hr⟩
theorem IsArgs.ak {R R' : Value → TA → Prop} {w w' : World} {lo n : Nat} {a : Option Addr} {xs : List TA} (h : IsArgs R w lo n a xs) (hm : Mk lo n w w') (hR : ∀ c0 e0 c1 e1 e, Ak c0 e0 → Ak c1 e1 → R (.agg #[c0, c1]) e → R' (.agg #[e0, e1]) e) : IsArgs R' w' lo n a xs := by
  rcases h with h | ⟨b, off, h1, h0, h2, h3⟩
  · exact .inl h
  · refine .inr ⟨b, off, h1, h0, h2, fun j hj => ?_⟩
    obtain ⟨c0, c1, d0, d1, hr⟩ := h3 j hj
    obtain ⟨e0, g0, a0⟩ := hm.al _ _ _ h0 h2 d0
    obtain ⟨e1, g1, a1⟩ := hm.al _ _ _ h0 h2 d1
    exact ⟨e0, e1, g0, g1, hR _ _ _ _ _ a0 a1 hr⟩
theorem IsFuns.ak {R R' : Value → TF → Prop} {w w' : World} {lo n : Nat} {a : Option Addr} {xs : List TF} (h : IsFuns R w lo n a xs) (hm : Mk lo n w w') (hR : ∀ c0 e0 c1 e1 c2 e2 c3 e3 c4 e4 c5 e5 c6 e6 c7 e7 c8 e8 e, Ak c0 e0 → Ak c1 e1 → Ak c2 e2 → Ak c3 e3 → Ak c4 e4 → Ak c5 e5 → Ak c6 e6 → Ak c7 e7 → Ak c8 e8 → R (.agg #[c0, c1, c2, c3, c4, c5, c6, c7, c8]) e → R' (.agg #[e0, e1, e2, e3, e4, e5, e6, e7, e8]) e) : IsFuns R' w' lo n a xs := by
  rcases h with h | ⟨b, off, h1, h0, h2, h3⟩
  · exact .inl h
  · refine .inr ⟨b, off, h1, h0, h2, fun j hj => ?_⟩
    obtain ⟨c0, c1, c2, c3, c4, c5, c6, c7, c8, d0, d1, d2, d3, d4, d5, d6, d7, d8, hr⟩ := h3 j hj
    obtain ⟨e0, g0, a0⟩ := hm.al _ _ _ h0 h2 d0
    obtain ⟨e1, g1, a1⟩ := hm.al _ _ _ h0 h2 d1
    obtain ⟨e2, g2, a2⟩ := hm.al _ _ _ h0 h2 d2
    obtain ⟨e3, g3, a3⟩ := hm.al _ _ _ h0 h2 d3
    obtain ⟨e4, g4, a4⟩ := hm.al _ _ _ h0 h2 d4
    obtain ⟨e5, g5, a5⟩ := hm.al _ _ _ h0 h2 d5
    obtain ⟨e6, g6, a6⟩ := hm.al _ _ _ h0 h2 d6
    obtain ⟨e7, g7, a7⟩ := hm.al _ _ _ h0 h2 d7
    obtain ⟨e8, g8, a8⟩ := hm.al _ _ _ h0 h2 d8
    exact ⟨e0, e1, e2, e3, e4, e5, e6, e7, e8, g0, g1, g2, g3, g4, g5, g6, g7, g8, hR _ _ _ _ _ _ _ _ _ _ _ _ _ _ _ _ _ _ _ a0 a1 a2 a3 a4 a5 a6 a7 a8 hr⟩
theorem IsSigs.ak {R R' : Value → TS → Prop} {w w' : World} {lo n : Nat} {a : Option Addr} {xs : List TS} (h : IsSigs R w lo n a xs) (hm : Mk lo n w w') (hR : ∀ c0 e0 c1 e1 c2 e2 e, Ak c0 e0 → Ak c1 e1 → Ak c2 e2 → R (.agg #[c0, c1, c2]) e → R' (.agg #[e0, e1, e2]) e) : IsSigs R' w' lo n a xs := by
  rcases h with h | ⟨b, off, h1, h0, h2, h3⟩
  · exact .inl h
  · refine .inr ⟨b, off, h1, h0, h2, fun j hj => ?_⟩
    obtain ⟨c0, c1, c2, d0, d1, d2, hr⟩ := h3 j hj
    obtain ⟨e0, g0, a0⟩ := hm.al _ _ _ h0 h2 d0
    obtain ⟨e1, g1, a1⟩ := hm.al _ _ _ h0 h2 d1
    obtain ⟨e2, g2, a2⟩ := hm.al _ _ _ h0 h2 d2
    exact ⟨e0, e1, e2, g0, g1, g2, hR _ _ _ _ _ _ _ a0 a1 a2 hr⟩
/-- Shapes. -/
def ShE (w : World) (lo n : Nat) : Nat → Value → TE → Prop
  | 0, _, _ => False
  | h + 1, v, .node _ _ _ _ kids => ∃ (k m : Int) (nm md : ByteArray) (a : Option Addr) (cap : Nat), v = .agg #[.int .i64 k, .int .i64 m, .string nm, .string md, .slice a kids.length cap] ∧ kids.length ≤ maxLen ∧ IsKids (ShE w lo n h) w lo n a kids
theorem ShE.of {w : World} {lo n : Nat} : ∀ (h : Nat) (v : Value) (e : TE), IsE w lo n h v e → ShE w lo n h v e
  | 0, _, _, hE => hE.elim
  | h + 1, v, .node k m nm md kids, hE => by
    obtain ⟨a, cap, hv, hz, hk⟩ := hE
    exact ⟨k, m, nm, md, a, cap, hv, hz.2.2, hk.mono (ShE.of h) (fun _ _ _ => rfl) (Nat.le_refl _) (Nat.le_refl _)⟩
theorem ShE.ak {w w' : World} {lo n : Nat} (hm : Mk lo n w w') : ∀ (h : Nat) (c0 e0 c1 e1 c2 e2 c3 e3 c4 e4 : Value) (e : TE), Ak c0 e0 → Ak c1 e1 → Ak c2 e2 → Ak c3 e3 → Ak c4 e4 → ShE w lo n h (.agg #[c0, c1, c2, c3, c4]) e → ShE w' lo n h (.agg #[e0, e1, e2, e3, e4]) e
  | 0, _, _, _, _, _, _, _, _, _, _, _, _, _, _, _, _, hE => hE.elim
  | h + 1, c0, e0, c1, e1, c2, e2, c3, e3, c4, e4, .node _ _ _ _ kids, a0, a1, a2, a3, a4, hE => by
    obtain ⟨k, m, nm, md, a, cap, hv, hz, hk⟩ := hE
    simp only [Value.agg.injEq, Array.mk.injEq, List.cons.injEq] at hv
    obtain ⟨rfl, rfl, rfl, rfl, rfl, -⟩ := hv
    obtain ⟨k', rfl⟩ := a0.int
    obtain ⟨m', rfl⟩ := a1.int
    obtain ⟨nm', rfl⟩ := a2.str
    obtain ⟨md', rfl⟩ := a3.str
    obtain rfl := a4.slice
    exact ⟨k', m', nm', md', a, cap, rfl, hz, hk.ak hm (fun c0 e0 c1 e1 c2 e2 c3 e3 c4 e4 e => ShE.ak hm h c0 e0 c1 e1 c2 e2 c3 e3 c4 e4 e)⟩
def ShA (v : Value) (_ : TA) : Prop := ∃ (nm : ByteArray) (t : Int), v = .agg #[.string nm, .int .i64 t]
theorem ShA.ak (c0 e0 c1 e1 : Value) (e : TA) (a0 : Ak c0 e0) (a1 : Ak c1 e1) (h : ShA (.agg #[c0, c1]) e) : ShA (.agg #[e0, e1]) e := by
  obtain ⟨nm, t, hv⟩ := h
  simp only [Value.agg.injEq, Array.mk.injEq, List.cons.injEq] at hv
  obtain ⟨rfl, rfl, -⟩ := hv
  obtain ⟨nm', rfl⟩ := a0.str
  obtain ⟨t', rfl⟩ := a1.int
  exact ⟨_, _, rfl⟩
def ShF (w : World) (lo n h : Nat) (v : Value) (f : TF) : Prop :=
  ∃ (nm : ByteArray) (p : Bool) (aa : Option Addr) (ca : Nat) (t : Int) (b0 b1 b2 b3 b4 : Value), v = .agg #[.string nm, .bool p, .slice aa f.args.length ca, .int .i64 t, b0, b1, b2, b3, b4] ∧ f.args.length ≤ maxLen ∧ IsArgs ShA w lo n aa f.args ∧ ShE w lo n h (.agg #[b0, b1, b2, b3, b4]) f.body
theorem ShF.ak {w w' : World} {lo n : Nat} (hm : Mk lo n w w') (h : Nat) (c0 e0 c1 e1 c2 e2 c3 e3 c4 e4 c5 e5 c6 e6 c7 e7 c8 e8 : Value) (e : TF) (a0 : Ak c0 e0) (a1 : Ak c1 e1) (a2 : Ak c2 e2) (a3 : Ak c3 e3) (a4 : Ak c4 e4) (a5 : Ak c5 e5) (a6 : Ak c6 e6) (a7 : Ak c7 e7) (a8 : Ak c8 e8)
    (hF : ShF w lo n h (.agg #[c0, c1, c2, c3, c4, c5, c6, c7, c8]) e) : ShF w' lo n h (.agg #[e0, e1, e2, e3, e4, e5, e6, e7, e8]) e := by
  obtain ⟨nm, p, aa, ca, t, b0, b1, b2, b3, b4, hv, hz, ha, hE⟩ := hF
  simp only [Value.agg.injEq, Array.mk.injEq, List.cons.injEq] at hv
  obtain ⟨rfl, rfl, rfl, rfl, rfl, rfl, rfl, rfl, rfl, -⟩ := hv
  obtain ⟨nm', rfl⟩ := a0.str
  obtain ⟨p', rfl⟩ := a1.bool
  obtain rfl := a2.slice
  obtain ⟨t', rfl⟩ := a3.int
  exact ⟨nm', p', aa, ca, t', e4, e5, e6, e7, e8, rfl, hz, ha.ak hm ShA.ak, ShE.ak hm h _ _ _ _ _ _ _ _ _ _ _ a4 a5 a6 a7 a8 hE⟩
theorem ShF.of {w : World} {lo n h : Nat} {v : Value} {f : TF} (hF : IsFun w lo n h v f) : ShF w lo n h v f := by
  obtain ⟨aa, ca, b0, b1, b2, b3, b4, hv, hz, ha, hE⟩ := hF
  exact ⟨_, _, aa, ca, _, b0, b1, b2, b3, b4, hv, hz.2, ha.mono (fun v e he => ⟨_, _, he.1⟩) (fun _ _ _ => rfl) (Nat.le_refl _) (Nat.le_refl _), ShE.of h _ _ hE⟩
def ShI (w : World) (lo n : Nat) (a : Option Addr) (m : Nat) : Prop := m = 0 ∨ ∃ b off : Nat, a = some ⟨b, off, none⟩ ∧ lo ≤ b ∧ b < n ∧ ∀ j, j < m → ∃ x, w.cell? ⟨b, off + j, none⟩ = some (.int .i64 x)
theorem ShI.of {w : World} {lo n : Nat} {a : Option Addr} {zs : List Int} (h : IsInts w lo n a zs) : ShI w lo n a zs.length := by
  rcases h with rfl | ⟨b, off, h1, h0, h2, h3⟩
  · exact .inl rfl
  · exact .inr ⟨b, off, h1, h0, h2, fun j hj => ⟨_, h3 j hj⟩⟩
theorem ShI.ak {w w' : World} {lo n : Nat} {a : Option Addr} {m : Nat} (h : ShI w lo n a m) (hm : Mk lo n w w') : ShI w' lo n a m := by
  rcases h with h | ⟨b, off, h1, h0, h2, h3⟩
  · exact .inl h
  · refine .inr ⟨b, off, h1, h0, h2, fun j hj => ?_⟩
    obtain ⟨x, hx⟩ := h3 j hj
    obtain ⟨v, hv, ha⟩ := hm.al _ _ _ h0 h2 hx
    obtain ⟨y, rfl⟩ := ha.int
    exact ⟨y, hv⟩
def ShW (w : World) (lo n : Nat) (a : Option Addr) (m : Nat) : Prop := m = 0 ∨ ∃ b off : Nat, a = some ⟨b, off, none⟩ ∧ lo ≤ b ∧ b < n ∧ ∀ j, j < m → ∃ x, w.cell? ⟨b, off + j, none⟩ = some (.string x)
theorem ShW.of {w : World} {lo n : Nat} {a : Option Addr} {zs : List ByteArray} (h : IsWds w lo n a zs) : ShW w lo n a zs.length := by
  rcases h with rfl | ⟨b, off, h1, h0, h2, h3⟩
  · exact .inl rfl
  · exact .inr ⟨b, off, h1, h0, h2, fun j hj => ⟨_, h3 j hj⟩⟩
theorem ShW.ak {w w' : World} {lo n : Nat} {a : Option Addr} {m : Nat} (h : ShW w lo n a m) (hm : Mk lo n w w') : ShW w' lo n a m := by
  rcases h with h | ⟨b, off, h1, h0, h2, h3⟩
  · exact .inl h
  · refine .inr ⟨b, off, h1, h0, h2, fun j hj => ?_⟩
    obtain ⟨x, hx⟩ := h3 j hj
    obtain ⟨v, hv, ha⟩ := hm.al _ _ _ h0 h2 hx
    obtain ⟨y, rfl⟩ := ha.str
    exact ⟨y, hv⟩
def ShS (w : World) (lo n : Nat) (v : Value) (s : TS) : Prop := ∃ (nm : ByteArray) (aa : Option Addr) (ca : Nat) (t : Int), v = .agg #[.string nm, .slice aa s.args.length ca, .int .i64 t] ∧ s.args.length ≤ maxLen ∧ ShI w lo n aa s.args.length
theorem ShS.of {w : World} {lo n : Nat} {v : Value} {s : TS} (h : IsSig w lo n v s) : ShS w lo n v s := by
  obtain ⟨aa, ca, hv, hz, ha⟩ := h
  exact ⟨_, aa, ca, _, hv, hz.2, ShI.of ha⟩
theorem ShS.ak {w w' : World} {lo n : Nat} (hm : Mk lo n w w') (c0 e0 c1 e1 c2 e2 : Value) (e : TS) (a0 : Ak c0 e0) (a1 : Ak c1 e1) (a2 : Ak c2 e2) (h : ShS w lo n (.agg #[c0, c1, c2]) e) : ShS w' lo n (.agg #[e0, e1, e2]) e := by
  obtain ⟨nm, aa, ca, t, hv, hz, ha⟩ := h
  simp only [Value.agg.injEq, Array.mk.injEq, List.cons.injEq] at hv
  obtain ⟨rfl, rfl, rfl, -⟩ := hv
  obtain ⟨nm', rfl⟩ := a0.str
  obtain rfl := a1.slice
  obtain ⟨t', rfl⟩ := a2.int
  exact ⟨nm', aa, ca, t', rfl, hz, ha.ak hm⟩
end Go.Proofs.YtkiaidjkhhljhaaGreat

namespace Go.Proofs.YtkiaidjkhhljhaaGreat
open Go.RowKit Go.PlainAid

theorem mk_text {lo n : Nat} {w w' : World} (h : Below w.heap.size w w') (hn : n ≤ w.heap.size) (hl : lo ≤ n) : Mk lo n w w' := Mk.below h hn (Nat.le_trans hl hn)
theorem akI (i j : Int) : Ak (.int .i64 i) (.int .i64 j) := .inr (.inl ⟨_, _, rfl, rfl⟩)
theorem akS (i j : ByteArray) : Ak (.string i) (.string j) := .inr (.inr (.inl ⟨_, _, rfl, rfl⟩))
theorem akB (i j : Bool) : Ak (.bool i) (.bool j) := .inr (.inr (.inr ⟨_, _, rfl, rfl⟩))

set_option maxRecDepth 100000 in
set_option maxHeartbeats 2000000 in
theorem markArgs_any (lo n : Nat) (a : Option Addr) (cap : Nat) (xs : List TA) (k0 : Nat) (w : World) (hS : IsArgs ShA w lo n a xs) (hF : Fr w lo n) (hn : n ≤ w.heap.size) (hlo : lo ≤ n) (h1 : 1 ≤ k0) (hk : k0 + xs.length * 2 ≤ 100000000000) :
    MkCalls lo n 84 (.slice a xs.length cap) k0 (xs.length * 2) w := by
  unfold MkCalls
  have HS := hide hS
  have HF := hide hF
  have HN := hide hn
  have HLO := hide hlo
  clear hS hF hlo hn
  go_enter Tryz.func84, Tryz.ntmps84
  go_wp2
  go_loopw [1, 5] (fun kk i wr => ∃ j q : Nat, j ≤ xs.length ∧ i = .int .i64 j ∧ kk = .int .i64 q ∧ k0 ≤ q ∧ q ≤ k0 + j * 2 ∧ Hid (Mk lo n w wr)) (fun _ i _ => xs.length - (intOf i).toNat)
  case atStart => exact ⟨0, k0, Nat.zero_le _, rfl, rfl, Nat.le_refl _, by omega, hide (Mk.refl _ _ _)⟩
  case round =>
    obtain ⟨j, q, hj, rfl, rfl, hq1, hq2, HM⟩ := hrel
    have HNR := hide (Nat.le_trans (unhide HN) (unhide HM).size)
    by_cases hp : j < xs.length
    · rcases (unhide HS).ak (unhide HM) ShA.ak with e0 | ⟨b, off, rfl, hbl, hbn, hcs⟩
      · rw [e0] at hp; simp at hp
      obtain ⟨c0, c1, d0, d1, nm, t, hv⟩ := hcs j hp
      simp only [Value.agg.injEq, Array.mk.injEq, List.cons.injEq] at hv
      obtain ⟨rfl, rfl, -⟩ := hv
      have HFR := hide ((unhide HF).mk (unhide HM))
      have D0 := hide d0
      have D1 := hide d1
      clear hcs d0 d1
      go_wp2_with fail
      refine (markText_any q (by omega) (by omega) _).mono ?_
      rintro r w1 ⟨rfl, hb1⟩
      have m1 := mk_text hb1 (unhide HNR) (unhide HLO)
      have HN1 := hide (Nat.le_trans (unhide HNR) hb1.size)
      have HM1 := hide m1
      clear m1 hb1
      obtain ⟨y0, g0, z0⟩ := (unhide HM1).al _ _ _ hbl hbn (unhide D0)
      obtain ⟨u0, rfl⟩ := z0.str
      obtain ⟨y1, g1, z1⟩ := (unhide HM1).al _ _ _ hbl hbn (unhide D1)
      obtain ⟨u1, rfl⟩ := z1.int
      have f0 := (unhide HFR).mk (unhide HM1) b (off + j * 2) hbl hbn
      have f1 := (unhide HFR).mk (unhide HM1) b (off + j * 2 + 1) hbl hbn
      have G0 := hide g0
      have G1 := hide g1
      clear z0 z1
      go_wp2
      go_roundw
      case rel =>
        refine ⟨j + 1, q + 1 + 1, by omega, by go_num, by go_num, by omega, by omega, hide ?_⟩
        refine (unhide HM).trans ((unhide HM1).trans ((Mk.set (unhide G0) (akS _ _) hbl hbn).trans (Mk.set ((cell_other _ _ _ _ _ (by omega)).trans (unhide G1)) (akI _ _) hbl hbn)))
      case measure => simp [intOf]; omega
    · go_wp2
      go_ret
      exact ⟨q, rfl, by omega, by omega, unhide HM⟩
end Go.Proofs.YtkiaidjkhhljhaaGreat

namespace Go.Proofs.YtkiaidjkhhljhaaGreat
open Go.RowKit Go.PlainAid

set_option maxRecDepth 100000 in
set_option maxHeartbeats 4000000 in
theorem markInts_any (lo n : Nat) (a : Option Addr) (cap m : Nat) (k0 : Nat) (w : World) (hS : ShI w lo n a m) (hF : Fr w lo n) (hn : n ≤ w.heap.size) (hlo : lo ≤ n) (_h1 : 1 ≤ k0) (hk : k0 + m ≤ 100000000000) :
    MkCalls lo n 55 (.slice a m cap) k0 m w := by
  unfold MkCalls
  have HS := hide hS
  have HF := hide hF
  have HN := hide hn
  have HLO := hide hlo
  clear hS hF hlo hn
  go_enter Tryz.func55, Tryz.ntmps55
  go_wp2
  go_loopw [1, 5] (fun kk i wr => ∃ j q : Nat, j ≤ m ∧ i = .int .i64 j ∧ kk = .int .i64 q ∧ k0 ≤ q ∧ Hid (q ≤ k0 + j) ∧ q ≤ 100000000000 ∧ Hid (Mk lo n w wr)) (fun _ i _ => m - (intOf i).toNat)
  case atStart => exact ⟨0, k0, Nat.zero_le _, rfl, rfl, Nat.le_refl _, hide (Nat.le_add_right _ _), by omega, hide (Mk.refl _ _ _)⟩
  case round =>
    obtain ⟨j, q, hj, rfl, rfl, hq1, HQ, hq3, HM⟩ := hrel
    have HN0 := hide (Nat.le_trans (unhide HN) (unhide HM).size)
    by_cases hp : j < m
    · rcases (unhide HS).ak (unhide HM) with e0 | ⟨b, off, rfl, hbl, hbn, hcs⟩
      · omega
      obtain ⟨x0, d0⟩ := hcs j hp
      have HX1 : Hid True := hide trivial
      have HX3 : Hid True := hide trivial
      have HFR := hide ((unhide HF).mk (unhide HM))
      have D0 := hide d0
      clear hcs d0
      have hqq : q + (1) ≤ 100000000000 := by have := unhide HQ; have := unhide HX1; have := unhide HX3; omega
      have HQN : Hid (q + (1) ≤ k0 + (j + 1)) := hide (by have := unhide HQ; have := unhide HX1; omega)
      have g0_0 := unhide D0
      have f0_0 := unhide HFR b (off + j) hbl hbn
      have G0_0 := hide g0_0
      go_wp2
      go_roundw
      case rel =>
        refine ⟨j + 1, q + 1, by omega, by go_num, by go_num, by omega, hide ?_, by omega, hide ?_⟩
        · have := unhide HQN; omega
        · refine (unhide HM).trans ?_
          exact (Mk.set (unhide G0_0) (akI _ _) hbl hbn)
      case measure => simp [intOf]; omega
    · have HE : Hid (q ≤ k0 + m) := hide (by
        have := unhide HQ
        
        omega)
      go_wp2
      go_ret
      exact ⟨q, rfl, by omega, unhide HE, unhide HM⟩
set_option maxRecDepth 100000 in
set_option maxHeartbeats 4000000 in
theorem markWds_any (lo n : Nat) (a : Option Addr) (cap m : Nat) (k0 : Nat) (w : World) (hS : ShW w lo n a m) (hF : Fr w lo n) (hn : n ≤ w.heap.size) (hlo : lo ≤ n) (_h1 : 1 ≤ k0) (hk : k0 + m ≤ 100000000000) :
    MkCalls lo n 41 (.slice a m cap) k0 m w := by
  unfold MkCalls
  have HS := hide hS
  have HF := hide hF
  have HN := hide hn
  have HLO := hide hlo
  clear hS hF hlo hn
  go_enter Tryz.func41, Tryz.ntmps41
  go_wp2
  go_loopw [1, 5] (fun kk i wr => ∃ j q : Nat, j ≤ m ∧ i = .int .i64 j ∧ kk = .int .i64 q ∧ k0 ≤ q ∧ Hid (q ≤ k0 + j) ∧ q ≤ 100000000000 ∧ Hid (Mk lo n w wr)) (fun _ i _ => m - (intOf i).toNat)
  case atStart => exact ⟨0, k0, Nat.zero_le _, rfl, rfl, Nat.le_refl _, hide (Nat.le_add_right _ _), by omega, hide (Mk.refl _ _ _)⟩
  case round =>
    obtain ⟨j, q, hj, rfl, rfl, hq1, HQ, hq3, HM⟩ := hrel
    have HN0 := hide (Nat.le_trans (unhide HN) (unhide HM).size)
    by_cases hp : j < m
    · rcases (unhide HS).ak (unhide HM) with e0 | ⟨b, off, rfl, hbl, hbn, hcs⟩
      · omega
      obtain ⟨x0, d0⟩ := hcs j hp
      have HX1 : Hid True := hide trivial
      have HX3 : Hid True := hide trivial
      have HFR := hide ((unhide HF).mk (unhide HM))
      have D0 := hide d0
      clear hcs d0
      have hqq : q + (1) ≤ 100000000000 := by have := unhide HQ; have := unhide HX1; have := unhide HX3; omega
      have HQN : Hid (q + (1) ≤ k0 + (j + 1)) := hide (by have := unhide HQ; have := unhide HX1; omega)
      go_wp2_with fail
      refine (markText_any (q) (by omega) (by omega) _).mono ?_
      rintro r w1 ⟨rfl, hb1⟩
      have hnW0 := Nat.le_trans (show n ≤ _ from (unhide HN0)) hb1.size
      have HM1 := hide (mk_text hb1 (unhide HN0) (unhide HLO))
      have HN1 := hide hnW0
      clear hb1 hnW0 
      obtain ⟨y1_0, g1_0, z1_0⟩ := (unhide HM1).al _ _ _ hbl hbn (unhide D0)
      obtain ⟨u1_0, rfl⟩ := z1_0.str
      clear z1_0
      have f1_0 := (unhide HFR).mk (unhide HM1) b (off + j) hbl hbn
      have G1_0 := hide g1_0
      go_wp2
      go_roundw
      case rel =>
        refine ⟨j + 1, q + 1, by omega, by go_num, by go_num, by omega, hide ?_, by omega, hide ?_⟩
        · have := unhide HQN; omega
        · refine (unhide HM).trans ?_
          exact ((unhide HM1).trans (Mk.set (unhide G1_0) (akS _ _) hbl hbn))
      case measure => simp [intOf]; omega
    · have HE : Hid (q ≤ k0 + m) := hide (by
        have := unhide HQ
        
        omega)
      go_wp2
      go_ret
      exact ⟨q, rfl, by omega, unhide HE, unhide HM⟩
set_option maxRecDepth 100000 in
set_option maxHeartbeats 4000000 in
theorem markKids_of (lo n h : Nat) (IH : ∀ (a : Option Addr) (cap : Nat) (xs : List TE) (k0 : Nat) (w : World), IsKids (ShE w lo n h) w lo n a xs → xs.length ≤ maxLen → Fr w lo n → n ≤ w.heap.size → lo ≤ n → 1 ≤ k0 → k0 + 4 * nodesL xs ≤ 100000000000 → MkCalls lo n 43 (.slice a xs.length cap) k0 (4 * nodesL xs) w)
    (a : Option Addr) (cap : Nat) (xs : List TE) (k0 : Nat) (w : World) (hS : IsKids (ShE w lo n (h + 1)) w lo n a xs) (hl : xs.length ≤ maxLen) (hF : Fr w lo n) (hn : n ≤ w.heap.size) (hlo : lo ≤ n) (_h1 : 1 ≤ k0) (hk : k0 + 4 * nodesL xs ≤ 100000000000) :
    MkCalls lo n 43 (.slice a xs.length cap) k0 (4 * nodesL xs) w := by
  unfold maxLen at hl
  have HIH := hide IH
  clear IH
  unfold MkCalls
  have HS := hide hS
  have HF := hide hF
  have HN := hide hn
  have HLO := hide hlo
  clear hS hF hlo hn
  go_enter Tryz.func43, Tryz.ntmps43
  go_wp2
  go_loopw [1, 5] (fun kk i wr => ∃ j q : Nat, j ≤ xs.length ∧ i = .int .i64 j ∧ kk = .int .i64 q ∧ k0 ≤ q ∧ Hid (q ≤ k0 + 4 * nodesL (xs.take j)) ∧ q ≤ 100000000000 ∧ Hid (Mk lo n w wr)) (fun _ i _ => xs.length - (intOf i).toNat)
  case atStart => exact ⟨0, k0, Nat.zero_le _, rfl, rfl, Nat.le_refl _, hide (Nat.le_add_right _ _), by omega, hide (Mk.refl _ _ _)⟩
  case round =>
    obtain ⟨j, q, hj, rfl, rfl, hq1, HQ, hq3, HM⟩ := hrel
    have HN0 := hide (Nat.le_trans (unhide HN) (unhide HM).size)
    by_cases hp : j < xs.length
    · rcases (unhide HS).ak (unhide HM) (ShE.ak (unhide HM) (h + 1)) with e0 | ⟨b, off, rfl, hbl, hbn, hcs⟩
      · rw [e0] at hp; simp at hp
      obtain ⟨c0, c1, c2, c3, c4, d0, d1, d2, d3, d4, hr⟩ := hcs j hp
      have hs1 := nodes_step xs j hp
      have hs3 := nodes_le xs (j + 1)
      generalize xs[j] = e at hr hs1
      obtain ⟨_, _, _, _, kids⟩ := e
      rw [TE.nodes] at hs1
      obtain ⟨k, m, nm, md, a', cap', hv, hz, hr⟩ := hr
      simp only [Value.agg.injEq, Array.mk.injEq, List.cons.injEq] at hv
      obtain ⟨rfl, rfl, rfl, rfl, rfl, -⟩ := hv
      have HZ := hide hz
      have HR := hide hr
      clear hr hz
      have HX1 := hide hs1
      have HX3 := hide hs3
      clear hs1 hs3
      have HFR := hide ((unhide HF).mk (unhide HM))
      have D0 := hide d0
      have D1 := hide d1
      have D2 := hide d2
      have D3 := hide d3
      have D4 := hide d4
      clear hcs d0 d1 d2 d3 d4
      have hqq : q + (4 + 4 * nodesL kids) ≤ 100000000000 := by have := unhide HQ; have := unhide HX1; have := unhide HX3; omega
      have HQN : Hid (q + (4 + 4 * nodesL kids) ≤ k0 + 4 * nodesL (xs.take (j + 1))) := hide (by have := unhide HQ; have := unhide HX1; omega)
      have g0_0 := unhide D0
      have f0_0 := unhide HFR b (off + j * 5) hbl hbn
      have G0_0 := hide g0_0
      have g0_1 := unhide D1
      have f0_1 := unhide HFR b (off + j * 5 + 1) hbl hbn
      have G0_1 := hide g0_1
      go_wp2_with fail
      refine (markText_any (q + 1 + 1) (by omega) (by omega) _).mono ?_
      rintro r w1 ⟨rfl, hb1⟩
      have hnW0 := Nat.le_trans (show n ≤ _ from (by simpa [World.setCell] using unhide HN0)) hb1.size
      have HM1 := hide (((Mk.set (unhide G0_0) (akI _ _) hbl hbn).trans (Mk.set ((cell_other _ _ _ _ _ (by omega)).trans (unhide G0_1)) (akI _ _) hbl hbn)).trans (mk_text hb1 (by simpa [World.setCell] using unhide HN0) (unhide HLO)))
      have HN1 := hide hnW0
      clear hb1 hnW0 g0_0 g0_1 f0_0 f0_1
      obtain ⟨y1_2, g1_2, z1_2⟩ := (unhide HM1).al _ _ _ hbl hbn (unhide D2)
      obtain ⟨u1_2, rfl⟩ := z1_2.str
      clear z1_2
      have f1_2 := (unhide HFR).mk (unhide HM1) b (off + j * 5 + 2) hbl hbn
      have G1_2 := hide g1_2
      go_wp2_with fail
      refine (markText_any (q + 1 + 1 + 1) (by omega) (by omega) _).mono ?_
      rintro r w2 ⟨rfl, hb2⟩
      have hnW1 := Nat.le_trans (show n ≤ _ from (by simpa [World.setCell] using unhide HN1)) hb2.size
      have HM2 := hide (((unhide HM1).trans (Mk.set (unhide G1_2) (akS _ _) hbl hbn)).trans (mk_text hb2 (by simpa [World.setCell] using unhide HN1) (unhide HLO)))
      have HN2 := hide hnW1
      clear hb2 hnW1 g1_2 f1_2
      obtain ⟨y2_3, g2_3, z2_3⟩ := (unhide HM2).al _ _ _ hbl hbn (unhide D3)
      obtain ⟨u2_3, rfl⟩ := z2_3.str
      clear z2_3
      have f2_3 := (unhide HFR).mk (unhide HM2) b (off + j * 5 + 3) hbl hbn
      have G2_3 := hide g2_3
      obtain ⟨y2_4, g2_4, z2_4⟩ := (unhide HM2).al _ _ _ hbl hbn (unhide D4)
      obtain rfl := z2_4.slice
      clear z2_4
      have G2_4 := hide g2_4
      go_wp2_with fail
      refine (unhide HIH a' cap' kids (q + 1 + 1 + 1 + 1) _ ((unhide HR).ak ((unhide HM2).trans (Mk.set (unhide G2_3) (akS _ _) hbl hbn)) (ShE.ak ((unhide HM2).trans (Mk.set (unhide G2_3) (akS _ _) hbl hbn)) h)) (unhide HZ) ((unhide HFR).mk ((unhide HM2).trans (Mk.set (unhide G2_3) (akS _ _) hbl hbn))) (by simpa [World.setCell] using unhide HN2) (unhide HLO) (by omega) (by omega)).mono ?_
      rintro r w3 ⟨q3, rfl, ha3, hc3, hm3⟩
      have HN3 := hide (Nat.le_trans (show n ≤ _ from (by simpa [World.setCell] using unhide HN2)) hm3.size)
      have HM3 := hide (((unhide HM2).trans (Mk.set (unhide G2_3) (akS _ _) hbl hbn)).trans hm3)
      clear hm3 g2_3 g2_4 f2_3
      go_wp2
      go_roundw
      case rel =>
        refine ⟨j + 1, q3, by omega, by go_num, by go_num, by omega, hide ?_, by omega, hide ?_⟩
        · have := unhide HQN; omega
        · refine (unhide HM).trans ?_
          exact (unhide HM3)
      case measure => simp [intOf]; omega
    · have HE : Hid (q ≤ k0 + 4 * nodesL xs) := hide (by
        have := unhide HQ
        rw [List.take_of_length_le (by omega)] at this
        omega)
      go_wp2
      go_ret
      exact ⟨q, rfl, by omega, unhide HE, unhide HM⟩
set_option maxHeartbeats 400000 in
theorem markKids_nil (lo n : Nat) (a : Option Addr) (cap : Nat) (xs : List TE) (k0 : Nat) (w : World) (hS : IsKids (ShE w lo n 0) w lo n a xs) (_ : xs.length ≤ maxLen) (_ : Fr w lo n) (_ : n ≤ w.heap.size) (_ : lo ≤ n) (_ : 1 ≤ k0) (_ : k0 + 4 * nodesL xs ≤ 100000000000) : MkCalls lo n 43 (.slice a xs.length cap) k0 (4 * nodesL xs) w := by
  have : xs = [] := by
    rcases hS with e | ⟨b, off, _, _, _, hcs⟩
    · exact e
    · rcases xs with _ | ⟨x, t⟩
      · rfl
      · obtain ⟨_, _, _, _, _, _, _, _, _, _, hr⟩ := hcs 0 (by simp)
        exact hr.elim
  subst this
  unfold MkCalls
  show Calls Tryz.prog 43 #[.slice a 0 cap, .int .i64 (k0 : Int)] w _
  go_enter Tryz.func43, Tryz.ntmps43
  go_wp2
  go_loopw [1, 5] (fun kk i wr => i = .int .i64 0 ∧ kk = .int .i64 (k0 : Int) ∧ w = wr) (fun _ i _ => 0)
  case atStart => exact ⟨rfl, rfl, rfl⟩
  case round =>
    obtain ⟨rfl, rfl, rfl⟩ := hrel
    go_wp2
    go_ret
    exact ⟨k0, rfl, Nat.le_refl _, by omega, Mk.refl _ _ _⟩

theorem markKids_any (lo n : Nat) : ∀ (h : Nat) (a : Option Addr) (cap : Nat) (xs : List TE) (k0 : Nat) (w : World), IsKids (ShE w lo n h) w lo n a xs → xs.length ≤ maxLen → Fr w lo n → n ≤ w.heap.size → lo ≤ n → 1 ≤ k0 → k0 + 4 * nodesL xs ≤ 100000000000 → MkCalls lo n 43 (.slice a xs.length cap) k0 (4 * nodesL xs) w
  | 0, a, cap, xs, k0, w, hS, hl, hF, hn, hlo, h1, hk => markKids_nil lo n a cap xs k0 w hS hl hF hn hlo h1 hk
  | h + 1, a, cap, xs, k0, w, hS, hl, hF, hn, hlo, h1, hk => markKids_of lo n h (markKids_any lo n h) a cap xs k0 w hS hl hF hn hlo h1 hk
end Go.Proofs.YtkiaidjkhhljhaaGreat

namespace Go.Proofs.YtkiaidjkhhljhaaGreat
open Go.RowKit Go.PlainAid

def mF (f : TF) : Nat := 3 + f.args.length * 2 + 4 * f.body.nodes
set_option maxRecDepth 100000 in
set_option maxHeartbeats 4000000 in
theorem markFuns_any (lo n h : Nat) (a : Option Addr) (cap : Nat) (xs : List TF) (k0 : Nat) (w : World) (hS : IsFuns (ShF w lo n h) w lo n a xs) (hl : xs.length ≤ maxLen) (hF : Fr w lo n) (hn : n ≤ w.heap.size) (hlo : lo ≤ n) (_h1 : 1 ≤ k0) (hk : k0 + sm mF xs ≤ 100000000000) :
    MkCalls lo n 42 (.slice a xs.length cap) k0 (sm mF xs) w := by
  unfold maxLen at hl
  unfold MkCalls
  have HS := hide hS
  have HF := hide hF
  have HN := hide hn
  have HLO := hide hlo
  clear hS hF hlo hn
  go_enter Tryz.func42, Tryz.ntmps42
  go_wp2
  go_loopw [1, 5] (fun kk i wr => ∃ j q : Nat, j ≤ xs.length ∧ i = .int .i64 j ∧ kk = .int .i64 q ∧ k0 ≤ q ∧ Hid (q ≤ k0 + sm mF (xs.take j)) ∧ q ≤ 100000000000 ∧ Hid (Mk lo n w wr)) (fun _ i _ => xs.length - (intOf i).toNat)
  case atStart => exact ⟨0, k0, Nat.zero_le _, rfl, rfl, Nat.le_refl _, hide (Nat.le_add_right _ _), by omega, hide (Mk.refl _ _ _)⟩
  case round =>
    obtain ⟨j, q, hj, rfl, rfl, hq1, HQ, hq3, HM⟩ := hrel
    have HN0 := hide (Nat.le_trans (unhide HN) (unhide HM).size)
    by_cases hp : j < xs.length
    · rcases (unhide HS).ak (unhide HM) (ShF.ak (unhide HM) h) with e0 | ⟨b, off, rfl, hbl, hbn, hcs⟩
      · rw [e0] at hp; simp at hp
      obtain ⟨c0, c1, c2, c3, c4, c5, c6, c7, c8, d0, d1, d2, d3, d4, d5, d6, d7, d8, hr⟩ := hcs j hp
      have hs1 := sm_step mF xs j hp
      have hs3 := sm_le mF xs (j + 1)
      generalize xs[j] = e at hr hs1
      obtain ⟨en, ep, args, et, body⟩ := e
      obtain ⟨ek, em, en2, ed, kids⟩ := body
      rw [show mF ⟨en, ep, args, et, .node ek em en2 ed kids⟩ = 3 + args.length * 2 + 4 * (1 + nodesL kids) from rfl] at hs1
      obtain ⟨nm, p, a', cap', t, b0, b1, b2, b3, b4, hv, hz, hA, hE⟩ := hr
      rcases h with _ | h
      · exact hE.elim
      obtain ⟨k, m, nm2, md2, a2, cap2, hv2, hz2, hr⟩ := hE
      simp only [Value.agg.injEq, Array.mk.injEq, List.cons.injEq] at hv2
      obtain ⟨rfl, rfl, rfl, rfl, rfl, -⟩ := hv2
      simp only [Value.agg.injEq, Array.mk.injEq, List.cons.injEq] at hv
      obtain ⟨rfl, rfl, rfl, rfl, rfl, rfl, rfl, rfl, rfl, -⟩ := hv
      dsimp only at hz hA
      have HZ2 := hide hz2
      have HR := hide hr
      have HA := hide hA
      clear hr hz hz2 hA
      have HX1 := hide hs1
      have HX3 := hide hs3
      clear hs1 hs3
      have HFR := hide ((unhide HF).mk (unhide HM))
      have D0 := hide d0
      have D1 := hide d1
      have D2 := hide d2
      have D3 := hide d3
      have D4 := hide d4
      have D5 := hide d5
      have D6 := hide d6
      have D7 := hide d7
      have D8 := hide d8
      clear hcs d0 d1 d2 d3 d4 d5 d6 d7 d8
      have hqq : q + (7 + args.length * 2 + 4 * nodesL kids) ≤ 100000000000 := by have := unhide HQ; have := unhide HX1; have := unhide HX3; omega
      have HQN : Hid (q + (7 + args.length * 2 + 4 * nodesL kids) ≤ k0 + sm mF (xs.take (j + 1))) := hide (by have := unhide HQ; have := unhide HX1; omega)
      go_wp2_with fail
      refine (markText_any (q) (by omega) (by omega) _).mono ?_
      rintro r w1 ⟨rfl, hb1⟩
      have hnW0 := Nat.le_trans (show n ≤ _ from (unhide HN0)) hb1.size
      have HM1 := hide (mk_text hb1 (unhide HN0) (unhide HLO))
      have HN1 := hide hnW0
      clear hb1 hnW0 
      obtain ⟨y1_0, g1_0, z1_0⟩ := (unhide HM1).al _ _ _ hbl hbn (unhide D0)
      obtain ⟨u1_0, rfl⟩ := z1_0.str
      clear z1_0
      have f1_0 := (unhide HFR).mk (unhide HM1) b (off + j * 9) hbl hbn
      have G1_0 := hide g1_0
      obtain ⟨y1_1, g1_1, z1_1⟩ := (unhide HM1).al _ _ _ hbl hbn (unhide D1)
      obtain ⟨u1_1, rfl⟩ := z1_1.bool
      clear z1_1
      have f1_1 := (unhide HFR).mk (unhide HM1) b (off + j * 9 + 1) hbl hbn
      have G1_1 := hide g1_1
      obtain ⟨y1_2, g1_2, z1_2⟩ := (unhide HM1).al _ _ _ hbl hbn (unhide D2)
      obtain rfl := z1_2.slice
      clear z1_2
      have G1_2 := hide g1_2
      go_wp2_with fail
      refine (markArgs_any lo n a' cap' args (q + 1 + 1) _ ((unhide HA).ak ((unhide HM1).trans ((Mk.set (unhide G1_0) (akS _ _) hbl hbn).trans (Mk.set ((cell_other _ _ _ _ _ (by omega)).trans (unhide G1_1)) (akB _ _) hbl hbn))) ShA.ak) ((unhide HFR).mk ((unhide HM1).trans ((Mk.set (unhide G1_0) (akS _ _) hbl hbn).trans (Mk.set ((cell_other _ _ _ _ _ (by omega)).trans (unhide G1_1)) (akB _ _) hbl hbn)))) (by simpa [World.setCell] using unhide HN1) (unhide HLO) (by omega) (by omega)).mono ?_
      rintro r w2 ⟨q2, rfl, ha2, hc2, hm2⟩
      have HN2 := hide (Nat.le_trans (show n ≤ _ from (by simpa [World.setCell] using unhide HN1)) hm2.size)
      have HM2 := hide (((unhide HM1).trans ((Mk.set (unhide G1_0) (akS _ _) hbl hbn).trans (Mk.set ((cell_other _ _ _ _ _ (by omega)).trans (unhide G1_1)) (akB _ _) hbl hbn))).trans hm2)
      clear hm2 g1_0 g1_1 g1_2 f1_0 f1_1
      obtain ⟨y2_3, g2_3, z2_3⟩ := (unhide HM2).al _ _ _ hbl hbn (unhide D3)
      obtain ⟨u2_3, rfl⟩ := z2_3.int
      clear z2_3
      have f2_3 := (unhide HFR).mk (unhide HM2) b (off + j * 9 + 3) hbl hbn
      have G2_3 := hide g2_3
      obtain ⟨y2_4, g2_4, z2_4⟩ := (unhide HM2).al _ _ _ hbl hbn (unhide D4)
      obtain ⟨u2_4, rfl⟩ := z2_4.int
      clear z2_4
      have f2_4 := (unhide HFR).mk (unhide HM2) b (off + j * 9 + 4) hbl hbn
      have G2_4 := hide g2_4
      obtain ⟨y2_5, g2_5, z2_5⟩ := (unhide HM2).al _ _ _ hbl hbn (unhide D5)
      obtain ⟨u2_5, rfl⟩ := z2_5.int
      clear z2_5
      have f2_5 := (unhide HFR).mk (unhide HM2) b (off + j * 9 + 5) hbl hbn
      have G2_5 := hide g2_5
      go_wp2_with fail
      refine (markText_any (q2 + 1 + 1 + 1) (by omega) (by omega) _).mono ?_
      rintro r w3 ⟨rfl, hb3⟩
      have hnW2 := Nat.le_trans (show n ≤ _ from (by simpa [World.setCell] using unhide HN2)) hb3.size
      have HM3 := hide (((unhide HM2).trans (((Mk.set (unhide G2_3) (akI _ _) hbl hbn).trans (Mk.set ((cell_other _ _ _ _ _ (by omega)).trans (unhide G2_4)) (akI _ _) hbl hbn)).trans (Mk.set ((cell_other _ _ _ _ _ (by omega)).trans ((cell_other _ _ _ _ _ (by omega)).trans (unhide G2_5))) (akI _ _) hbl hbn))).trans (mk_text hb3 (by simpa [World.setCell] using unhide HN2) (unhide HLO)))
      have HN3 := hide hnW2
      clear hb3 hnW2 g2_3 g2_4 g2_5 f2_3 f2_4 f2_5
      obtain ⟨y3_6, g3_6, z3_6⟩ := (unhide HM3).al _ _ _ hbl hbn (unhide D6)
      obtain ⟨u3_6, rfl⟩ := z3_6.str
      clear z3_6
      have f3_6 := (unhide HFR).mk (unhide HM3) b (off + j * 9 + 6) hbl hbn
      have G3_6 := hide g3_6
      go_wp2_with fail
      refine (markText_any (q2 + 1 + 1 + 1 + 1) (by omega) (by omega) _).mono ?_
      rintro r w4 ⟨rfl, hb4⟩
      have hnW3 := Nat.le_trans (show n ≤ _ from (by simpa [World.setCell] using unhide HN3)) hb4.size
      have HM4 := hide (((unhide HM3).trans (Mk.set (unhide G3_6) (akS _ _) hbl hbn)).trans (mk_text hb4 (by simpa [World.setCell] using unhide HN3) (unhide HLO)))
      have HN4 := hide hnW3
      clear hb4 hnW3 g3_6 f3_6
      obtain ⟨y4_7, g4_7, z4_7⟩ := (unhide HM4).al _ _ _ hbl hbn (unhide D7)
      obtain ⟨u4_7, rfl⟩ := z4_7.str
      clear z4_7
      have f4_7 := (unhide HFR).mk (unhide HM4) b (off + j * 9 + 7) hbl hbn
      have G4_7 := hide g4_7
      obtain ⟨y4_8, g4_8, z4_8⟩ := (unhide HM4).al _ _ _ hbl hbn (unhide D8)
      obtain rfl := z4_8.slice
      clear z4_8
      have G4_8 := hide g4_8
      go_wp2_with fail
      refine (markKids_any lo n h a2 cap2 kids (q2 + 1 + 1 + 1 + 1 + 1) _ ((unhide HR).ak ((unhide HM4).trans (Mk.set (unhide G4_7) (akS _ _) hbl hbn)) (ShE.ak ((unhide HM4).trans (Mk.set (unhide G4_7) (akS _ _) hbl hbn)) h)) (unhide HZ2) ((unhide HFR).mk ((unhide HM4).trans (Mk.set (unhide G4_7) (akS _ _) hbl hbn))) (by simpa [World.setCell] using unhide HN4) (unhide HLO) (by omega) (by omega)).mono ?_
      rintro r w5 ⟨q5, rfl, ha5, hc5, hm5⟩
      have HN5 := hide (Nat.le_trans (show n ≤ _ from (by simpa [World.setCell] using unhide HN4)) hm5.size)
      have HM5 := hide (((unhide HM4).trans (Mk.set (unhide G4_7) (akS _ _) hbl hbn)).trans hm5)
      clear hm5 g4_7 g4_8 f4_7
      go_wp2
      go_roundw
      case rel =>
        refine ⟨j + 1, q5, by omega, by go_num, by go_num, by omega, hide ?_, by omega, hide ?_⟩
        · have := unhide HQN; omega
        · refine (unhide HM).trans ?_
          exact (unhide HM5)
      case measure => simp [intOf]; omega
    · have HE : Hid (q ≤ k0 + sm mF xs) := hide (by
        have := unhide HQ
        rw [List.take_of_length_le (by omega)] at this
        omega)
      go_wp2
      go_ret
      exact ⟨q, rfl, by omega, unhide HE, unhide HM⟩
end Go.Proofs.YtkiaidjkhhljhaaGreat

namespace Go.Proofs.YtkiaidjkhhljhaaGreat
open Go.RowKit Go.PlainAid

theorem below_newM (w : World) (o : Obj) : Below w.heap.size w (w.alloc o) := (Below.refl _ _).alloc (Nat.le_refl _) _
theorem Blk.high {w w' : World} {B lo n : Nat} {C : List Value} (h : Blk w B C) (hm : Mk lo n w w') (hB : n ≤ B) (hw : B < w.heap.size) : Blk w' B C :=
  ⟨fun i => (World.cell?_of_block (w := w) (a := ⟨B, i, none⟩) (hm.high B hB hw)).trans (h.1 i), fun i => (World.frozen?_of_block (w := w) (a := ⟨B, i, none⟩) (hm.high B hB hw)).trans (h.2 i)⟩
def mM (m : TM) : Nat := m.uses.length + sm mF m.funs + 4 * nodesL m.main
set_option maxRecDepth 100000 in
set_option maxHeartbeats 2000000 in
theorem markMod_any (lo n h : Nat) (v : Value) (m : TM) (k0 : Nat) (w : World) (hS : IsMod w lo n h v m) (hF : Fr w lo n) (hn : n ≤ w.heap.size) (hlo : lo ≤ n) (_h1 : 1 ≤ k0) (hk : k0 + mM m ≤ 100000000000) :
    MkCalls lo n 14 v k0 (mM m) w := by
  unfold MkCalls
  obtain ⟨us, fs, mn⟩ := m
  obtain ⟨a1, a2, a3, k1, k2, k3, rfl, ⟨hz1, hz2, hz3, _, _⟩, q1, q2, q3⟩ := hS
  dsimp only at hz1 hz2 hz3 q1 q2 q3
  have hk' : k0 + (us.length + sm mF fs + 4 * nodesL mn) ≤ 100000000000 := hk
  show Calls Tryz.prog 14 #[.agg #[.slice a1 us.length k1, .slice a2 fs.length k2, .slice a3 mn.length k3], .int .i64 (k0 : Int)] w fun e w' => ∃ k' : Nat, e = .returned (.int .i64 (k' : Int)) ∧ k0 ≤ k' ∧ k' ≤ k0 + (us.length + sm mF fs + 4 * nodesL mn) ∧ Mk lo n w w'
  clear hk
  have A1 := hide (ShW.of q1)
  have A2 := hide (q2.mono (R' := ShF w lo n h) (fun v e he => ShF.of he) (fun _ _ _ => rfl) (Nat.le_refl _) (Nat.le_refl _))
  have A3 := hide (q3.mono (R' := ShE w lo n h) (fun v e he => ShE.of h v e he) (fun _ _ _ => rfl) (Nat.le_refl _) (Nat.le_refl _))
  have HF := hide hF
  have HN := hide hn
  have HLO := hide hlo
  have Z2 := hide hz2
  have Z3 := hide hz3
  clear q1 q2 q3 hF hn hlo hz1 hz2 hz3
  obtain ⟨B, hB⟩ : ∃ B, sm mF fs = B := ⟨_, rfl⟩
  obtain ⟨C, hC⟩ : ∃ C, 4 * nodesL mn = C := ⟨_, rfl⟩
  rw [hB, hC] at hk' ⊢
  have HBB := hide hB
  have HCC := hide hC
  clear hB hC
  have hm0 : Mk lo n w (w.alloc (.cells #[.slice a1 us.length k1, .slice a2 fs.length k2, .slice a3 mn.length k3] 27)) := Mk.below (below_newM _ _) (unhide HN) (Nat.le_trans (unhide HLO) (unhide HN))
  have HM0 := hide hm0
  have b0 := Blk.new w [.slice a1 us.length k1, .slice a2 fs.length k2, .slice a3 mn.length k3] 27
  have B0 := hide b0
  have HN0 := hide (Nat.le_trans (unhide HN) hm0.size)
  have HW0 : Hid (w.heap.size < (w.alloc (.cells #[.slice a1 us.length k1, .slice a2 fs.length k2, .slice a3 mn.length k3] 27)).heap.size) := hide (by simp)
  clear hm0 b0
  go_enter Tryz.func14, Tryz.ntmps14
  go_wp2_with fail
  refine (markWds_any lo n a1 k1 us.length k0 _ ((unhide A1).ak (unhide HM0)) ((unhide HF).mk (unhide HM0)) (unhide HN0) (unhide HLO) (by omega) (by omega)).mono ?_
  rintro r w1 ⟨q1, rfl, ha1, hc1, hm1⟩
  have n1 := Blk.high (unhide B0) hm1 (unhide HN) (unhide HW0)
  have HW1 := hide (Nat.lt_of_lt_of_le (unhide HW0) hm1.size)
  have HM1 := hide ((unhide HM0).trans hm1)
  have HN1 := hide (Nat.le_trans (unhide HN0) hm1.size)
  have p1 := n1.cellAt (i := 1) rfl
  have B1 := hide n1
  clear n1 hm1
  go_wp2_with fail
  refine (markFuns_any lo n h a2 k2 fs q1 _ ((unhide A2).ak (unhide HM1) (ShF.ak (unhide HM1) h)) (unhide Z2) ((unhide HF).mk (unhide HM1)) (unhide HN1) (unhide HLO) (by omega) (by have := unhide HBB; omega)).mono ?_
  rw [unhide HBB]
  rintro r w2 ⟨q2, rfl, ha2, hc2, hm2⟩
  have n2 := Blk.high (unhide B1) hm2 (unhide HN) (unhide HW1)
  have HM2 := hide ((unhide HM1).trans hm2)
  have HN2 := hide (Nat.le_trans (unhide HN1) hm2.size)
  have p2 := n2.cellAt (i := 2) rfl
  clear n2 hm2
  go_wp2_with fail
  refine (markKids_any lo n h a3 k3 mn q2 _ ((unhide A3).ak (unhide HM2) (ShE.ak (unhide HM2) h)) (unhide Z3) ((unhide HF).mk (unhide HM2)) (unhide HN2) (unhide HLO) (by omega) (by have := unhide HCC; omega)).mono ?_
  rw [unhide HCC]
  rintro r w3 ⟨q3, rfl, ha3, hc3, hm3⟩
  have HM3 := hide ((unhide HM2).trans hm3)
  clear hm3
  go_wp2
  go_ret
  exact ⟨q3, rfl, by omega, by omega, unhide HM3⟩

set_option maxHeartbeats 1000000 in
theorem markIntS_at (lo n : Nat) (v : Value) (zs : List Int) (k0 : Nat) (w : World) (h : OwnI w lo n v zs) (hl : zs.length ≤ 1000000000000) (hk0 : k0 ≤ 9000000000000000) :
    Calls Tryz.prog 55 #[v, .int .i64 k0] w fun e w' => e = .returned (.int .i64 ((k0 + zs.length : Nat) : Int)) ∧ OwnI w' lo n v (marksI k0 zs.length) ∧ Below lo w w' ∧ w'.heap.size = w.heap.size ∧ ∀ c, n ≤ c → w'.heap[c]? = w.heap[c]? := by
  obtain ⟨a, cap, rfl, h⟩ := h

  have HW := hide h
  clear h
  go_enter Tryz.func55, Tryz.ntmps55
  go_wp2
  go_loopw [1, 5] (fun kk i wr => ∃ k : Nat, k ≤ zs.length ∧ i = .int .i64 k ∧ kk = .int .i64 ((k0 + k : Nat) : Int) ∧ Hid (Below lo w wr) ∧ Hid (wr.heap.size = w.heap.size) ∧ Hid (∀ c, n ≤ c → wr.heap[c]? = w.heap[c]?) ∧ Hid (∀ b, a = some ⟨b, 0, none⟩ → (∀ j, wr.frozen? ⟨b, j, none⟩ = w.frozen? ⟨b, j, none⟩) ∧ (∀ j, j < k → wr.cell? ⟨b, j, none⟩ = some (.int .i64 ((k0 + j : Nat) : Int))) ∧ ∀ j, k ≤ j → wr.cell? ⟨b, j, none⟩ = w.cell? ⟨b, j, none⟩)) (fun _ i _ => zs.length - (intOf i).toNat)
  case atStart => exact ⟨0, Nat.zero_le _, rfl, rfl, hide (Below.refl _ _), hide rfl, hide (fun _ _ => rfl), hide (fun b _ => ⟨fun _ => rfl, fun j hj => absurd hj (Nat.not_lt_zero _), fun j _ => rfl⟩)⟩
  case round =>
    obtain ⟨k, hk, rfl, rfl, HB, HS, HO, HC⟩ := hrel
    by_cases hp : k < zs.length
    · rcases unhide HW with h | ⟨b, rfl, h2, h3, h4, h5⟩
      · rw [h] at hp; simp at hp
      obtain ⟨g1, g2, g3⟩ := unhide HC b rfl
      have hc : wr.cell? ⟨b, k, none⟩ = some (.int .i64 (zs[k]'hp)) := (g3 k (Nat.le_refl _)).trans (h4 k hp)
      have hf : wr.frozen? ⟨b, k, none⟩ = false := (g1 k).trans (h5 k)
      generalize zs[k]'hp = x at hc
      have HG1 := hide g1
      have HG2 := hide g2
      have HG3 := hide g3
      have H2 := hide h2
      have H3 := hide h3
      have HCC := hide hc
      clear g1 g2 g3 h4 h5
      go_wp2
      go_roundw
      case rel =>
        refine ⟨k + 1, by omega, by go_num, by go_num, hide ((unhide HB).setCell (p := ⟨b, k, none⟩) (unhide H2) _), hide (by simpa [World.setCell] using unhide HS), hide (fun c hc => by rw [Below.heap_setCell _ _ _ _ (by have := unhide H3; simp; omega)]; exact unhide HO c hc), hide (fun b' e => ?_)⟩
        cases e
        refine ⟨fun j => by rw [World.frozen?_setCell]; exact unhide HG1 j, fun j hj => ?_, fun j hj => ?_⟩
        · by_cases e : j = k
          · subst e
            exact cell_same _ _ _ _ (by rw [unhide HCC]; rfl)
          · rw [cell_other _ _ _ _ _ (by omega)]
            exact unhide HG2 j (by omega)
        · rw [cell_other _ _ _ _ _ (by omega)]
          exact unhide HG3 j (by omega)
      case measure => simp [intOf]; omega
    · have hk' : k = zs.length := by omega
      subst hk'
      have HR : Hid (OwnI wr lo n (.slice a zs.length cap) (marksI k0 zs.length)) := hide (by
        refine ⟨a, cap, by rw [marksI_len], ?_⟩
        rcases unhide HW with h | ⟨b, rfl, h2, h3, h4, h5⟩
        · exact .inl (by rw [h]; rfl)
        · obtain ⟨g1, g2, g3⟩ := unhide HC b rfl
          exact .inr ⟨b, rfl, h2, h3, fun j hj => by rw [marksI_at]; exact g2 j (by rw [marksI_len] at hj; exact hj), fun j => (g1 j).trans (h5 j)⟩)
      go_wp2
      go_ret
      exact ⟨rfl, unhide HR, unhide HB, unhide HS, unhide HO⟩

end Go.Proofs.YtkiaidjkhhljhaaGreat
