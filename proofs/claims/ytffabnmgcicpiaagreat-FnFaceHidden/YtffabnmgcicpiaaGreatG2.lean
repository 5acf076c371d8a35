/- Regions that draw their order and keep all that was there. No conditions. Rows of numbers in memory, and the walks of szIntS, toIntS, eqIntS. Conditions: the rows can be read. Signatures of faces in memory. No conditions. Rows of signatures: the walks of szFaceSigS, eqFaceSigS, toFaceSigS. Conditions: the rows can be read. The walks of szFaceSig, eqFaceSig and toFaceSig. No conditions. -/
import Derived.Test.YtffabnmgcicpiaaGreatG1
import Derived.WalkSmall
import Derived.Deep.QuietTactic
import Derived.BigQuiet
import Derived.Deep.RegionWith
import Derived.Deep.CutRange
import Derived.Deep.AppendLies
import Derived.OwnWalk
import Derived.Laws.AppendOwn
namespace Go.Proofs.YtffabnmgcicpiaaGreat
open Go.RowKit Go.PlainAid

/-- A world that is this one, all that was there kept. -/
structure Bel (w : World) where
  W : World
  h : Below w.heap.size w W
/-- The walk of a region in the text's order, shut, so that nothing looks into it by itself. -/
structure WQ (P : Program) (ops : Array Oper) (C : World → Prop) (Q : Act → Prop) (l : List Oper) (a : Act) : Prop where
  out : wpQuiet P ops C Q l a
theorem WQ.step {P : Program} {ops : Array Oper} {C : World → Prop} {Q : Act → Prop} {a : Act} {o : Oper} {rest : List Oper}
    (h : ∀ K : Act → Prop, (∀ a, WQ P ops C Q rest a → K a) → if Region.wanted o (yielded ops a.tmps) then o.quiet P a C K else K (a.put o.dst undef)) : WQ P ops C Q (o :: rest) a :=
  ⟨wpQuiet_step fun K hK => h K fun a ha => hK a ha.out⟩
theorem WQ.nil {P : Program} {ops : Array Oper} {C : World → Prop} {Q : Act → Prop} {a : Act} (h : Q a) : WQ P ops C Q [] a := ⟨h⟩
/-- A region that draws its order, reads, and calls what keeps all that was there: one walk, in the text's order. -/
theorem wp_region_bel {P : Program} {id : Nat} {Q : Exit → Act → World → Prop} {a : Act} {w : World} {l : List Oper} (hm : P.follows .mixedOrders = true) (hB : Region.lexB .any l.toArray = true)
    (h : WQ P l.toArray (fun w' => ∃ p : Bel w, w' = p.W) (fun a' => ∀ w', (∃ p : Bel w, w' = p.W) → Q .normal a' w') l a) : (Code.region id l.toArray true).wp P Q a w :=
  wp_region_quiet (C := fun w' => ∃ p : Bel w, w' = p.W) hm hB ⟨⟨w.drew, (Below.refl _ _).drew⟩, rfl⟩ (by simpa using h.out)
theorem Calls.bel {P : Program} {f : FuncId} {args : Array Value} {w : World} {v : Value} (h : ∀ W, Below w.heap.size w W → Calls P f args W fun e w' => e = .returned v ∧ Below W.heap.size W w') (p : Bel w) :
    Calls P f args p.W fun e w'' => e = .returned v ∧ ∃ q : Bel w, w'' = q.W :=
  (h p.W p.h).mono fun _ w'' ⟨he, hb⟩ => ⟨he, ⟨w'', p.h.trans (hb.mono p.h.size)⟩, rfl⟩
theorem Bel.cell {w : World} {a : Addr} {v : Value} (hb : a.block < w.heap.size) (h : w.cell? a = some v) (p : Bel w) : p.W.cell? a = some v := (p.h.cell (p := a) hb).trans h
end Go.Proofs.YtffabnmgcicpiaaGreat

namespace Go.Proofs.YtffabnmgcicpiaaGreat
open Go.RowKit Go.PlainAid

/-- A row of numbers that can be read, in a block from lo on and below n. -/
def IsInts (w : World) (lo n : Nat) (a : Option Addr) (zs : List Int) : Prop :=
  zs = [] ∨ ∃ b off : Nat, a = some ⟨b, off, none⟩ ∧ lo ≤ b ∧ b < n ∧ ∀ j (hj : j < zs.length), w.cell? ⟨b, off + j, none⟩ = some (.int .i64 zs[j])
theorem IsInts.same {w w' : World} {lo n lo' n' : Nat} {a : Option Addr} {zs : List Int} (h : IsInts w lo n a zs) (hs : Same lo n w w') (hl : lo' ≤ lo) (hn : n ≤ n') : IsInts w' lo' n' a zs := by
  rcases h with h | ⟨b, off, h1, h0, h2, h3⟩
  · exact .inl h
  · exact .inr ⟨b, off, h1, by omega, by omega, fun j hj => (World.cell?_of_block (w := w) (hs b h0 h2)).trans (h3 j hj)⟩
theorem IsInts.kept {w w' : World} {lo n m : Nat} {a : Option Addr} {zs : List Int} (h : IsInts w lo n a zs) (hb : Below n w w') (hnm : n ≤ m) : IsInts w' lo m a zs := h.same (Below.same hb) (Nat.le_refl _) hnm

set_option maxHeartbeats 400000 in
theorem intinfo : (Tryz.prog.info? 3).map (fun i => (i.zero, i.size, i.bytes)) = some (some (.int .i64 0), 1, 8) := by kernel_rfl
theorem make_ints (n : Nat) (hn : n ≤ 1048576) : ∃ M : Array Value, M.size = n ∧ ∀ W : World, (Instr.makeSlice 50 (.int .i64 (n : Int)) (.int .i64 (n : Int))).run Tryz.prog W = .ok (.slice (some ⟨W.heap.size, 0, none⟩) n n) (W.alloc (.cells M 3)) := by
  obtain ⟨i0, hi, hz0, hz1, hz2⟩ := info_parts intinfo
  refine ⟨madeCells (Value.int .i64 0).cells (((n : Nat) : Int).toNat * i0.size), by rw [size_madeCells, hz1]; simp, fun W => ?_⟩
  have h := run_make (P := Tryz.prog) W 50 3 i0 (.int .i64 0) Tryz.underlying50 hi hz0 .i64 .i64 (n : Int) (n : Int) (by omega) (by omega) (by rw [hz2]; omega) (by omega)
  simpa using h

end Go.Proofs.YtffabnmgcicpiaaGreat

namespace Go.Proofs.YtffabnmgcicpiaaGreat
open Go.RowKit Go.PlainAid

/-- A signature. -/
structure TS where
  name : ByteArray
  args : List Int
  type : Int
def TS.wt (s : TS) : Nat := s.name.size + s.args.length
/-- A value that is a signature, its numbers in the blocks from lo on and below n. -/
def IsSig (w : World) (lo n : Nat) (v : Value) (s : TS) : Prop :=
  ∃ (aa : Option Addr) (ca : Nat), v = .agg #[.string s.name, .slice aa s.args.length ca, .int .i64 s.type] ∧ (s.name.size ≤ maxLen ∧ s.args.length ≤ maxLen) ∧ IsInts w lo n aa s.args
theorem IsSig.same {w w' : World} {lo n lo' n' : Nat} (hs : Same lo n w w') (hl : lo' ≤ lo) (hn : n ≤ n') (v : Value) (s : TS) (h : IsSig w lo n v s) : IsSig w' lo' n' v s := by
  obtain ⟨aa, ca, hv, hz, ha⟩ := h
  exact ⟨aa, ca, hv, hz, ha.same hs hl hn⟩
theorem IsSig.kept {w w' : World} {lo n m : Nat} {v : Value} {s : TS} (h : IsSig w lo n v s) (hb : Below n w w') (hnm : n ≤ m) : IsSig w' lo m v s := IsSig.same (Below.same hb) (Nat.le_refl _) hnm v s h
theorem IsSig.form {w : World} {lo n : Nat} {c0 c1 c2 : Value} {s : TS} (h : IsSig w lo n (.agg #[c0, c1, c2]) s) : ∃ (xs : ByteArray) (xa : Option Addr) (xl xc : Nat) (xt : Int), c0 = .string xs ∧ c1 = .slice xa xl xc ∧ c2 = .int .i64 xt := by
  obtain ⟨aa, ca, hv, hz, ha⟩ := h
  simp only [Value.agg.injEq, Array.mk.injEq, List.cons.injEq] at hv
  exact ⟨_, _, _, _, _, hv.1, hv.2.1, hv.2.2.1⟩
end Go.Proofs.YtffabnmgcicpiaaGreat

namespace Go.Proofs.YtffabnmgcicpiaaGreat
open Go.RowKit Go.PlainAid

/-- A row that can be read, all of it in the blocks from lo on and below n, each element as R says. -/
def IsSigs (R : Value → TS → Prop) (w : World) (lo n : Nat) (a : Option Addr) (xs : List TS) : Prop :=
  xs = [] ∨ ∃ b off : Nat, a = some ⟨b, off, none⟩ ∧ lo ≤ b ∧ b < n ∧ ∀ j (hj : j < xs.length), ∃ c0 c1 c2 : Value,
    w.cell? ⟨b, off + j * 3, none⟩ = some c0 ∧ w.cell? ⟨b, off + j * 3 + 1, none⟩ = some c1 ∧ w.cell? ⟨b, off + j * 3 + 2, none⟩ = some c2 ∧ R (.agg #[c0, c1, c2]) xs[j]
theorem IsSigs.mono {R R' : Value → TS → Prop} {w w' : World} {lo n lo' n' : Nat} {a : Option Addr} {xs : List TS} (h : IsSigs R w lo n a xs) (hR : ∀ v e, R v e → R' v e) (hs : Same lo n w w') (hl : lo' ≤ lo) (hn : n ≤ n') : IsSigs R' w' lo' n' a xs := by
  rcases h with h | ⟨b, off, h1, h0, h2, h3⟩
  · exact .inl h
  · refine .inr ⟨b, off, h1, by omega, by omega, fun j hj => ?_⟩
    obtain ⟨c0, c1, c2, d0, d1, d2, hr⟩ := h3 j hj
    have hc : ∀ o, w'.cell? ⟨b, o, none⟩ = w.cell? ⟨b, o, none⟩ := fun o => World.cell?_of_block (w := w) (hs b h0 h2)
    exact ⟨c0, c1, c2, (hc _).trans d0, (hc _).trans d1, (hc _).trans d2, hR _ _ hr⟩
theorem IsSigs.kept  {w w' : World} {lo n m : Nat} {a : Option Addr} {xs : List TS} (hk : IsSigs (IsSig w lo n) w lo n a xs) (hb : Below n w w') (hnm : n ≤ m) : IsSigs (IsSig w' lo m) w' lo m a xs :=
  hk.mono (fun v e he => IsSig.same  (Below.same hb) (Nat.le_refl _) hnm v e he) (Below.same hb) (Nat.le_refl _) hnm
def wtSigs (l : List TS) : Nat := (l.map TS.wt).sum
theorem wtSig_step (xs : List TS) (k : Nat) (h : k < xs.length) : wtSigs (xs.take (k + 1)) = wtSigs (xs.take k) + xs[k].wt := by
  unfold wtSigs; rw [List.take_succ_eq_append_getElem h, List.map_append, List.sum_append]; simp
theorem wtSig_le (xs : List TS) (k : Nat) : wtSigs (xs.take k) ≤ wtSigs xs := by
  have : wtSigs xs = wtSigs (xs.take k) + wtSigs (xs.drop k) := by
    unfold wtSigs
    conv => lhs; rw [← List.take_append_drop k xs]
    rw [List.map_append, List.sum_append]
  omega

/-- 3 cells are written one behind the other. -/
abbrev put3 (w : World) (B o : Nat) (x0 x1 x2 : Value) : World := ((w.setCell ⟨B, o, none⟩ x0).setCell ⟨B, o + 1, none⟩ x1).setCell ⟨B, o + 2, none⟩ x2
theorem put3_size (w : World) (B o : Nat) (x0 x1 x2 : Value) : (put3 w B o x0 x1 x2).heap.size = w.heap.size := by simp [put3, World.setCell]
theorem put3_heap (w : World) (B o : Nat) (x0 x1 x2 : Value) (b : Nat) (h : b ≠ B) : (put3 w B o x0 x1 x2).heap[b]? = w.heap[b]? := by
  unfold put3
  rw [Below.heap_setCell _ _ _ _ (by simpa using h), Below.heap_setCell _ _ _ _ (by simpa using h), Below.heap_setCell _ _ _ _ (by simpa using h)]
theorem put3_below (w : World) (B o : Nat) (x0 x1 x2 : Value) {n : Nat} (h : n ≤ B) : Below n w (put3 w B o x0 x1 x2) :=
  ((((Below.refl n w).setCell (p := ⟨B, o, none⟩) h _).setCell (p := ⟨B, o + 1, none⟩) h _).setCell (p := ⟨B, o + 2, none⟩) h _)
theorem put3_frozen (w : World) (B o : Nat) (x0 x1 x2 : Value) (j : Nat) : (put3 w B o x0 x1 x2).frozen? ⟨B, j, none⟩ = w.frozen? ⟨B, j, none⟩ := by
  unfold put3
  rw [World.frozen?_setCell, World.frozen?_setCell, World.frozen?_setCell]
theorem put3_other (w : World) (B o : Nat) (x0 x1 x2 : Value) (j : Nat) (h : j < o ∨ o + 3 ≤ j) : (put3 w B o x0 x1 x2).cell? ⟨B, j, none⟩ = w.cell? ⟨B, j, none⟩ := by
  unfold put3
  rw [cell_other _ _ _ _ _ (by omega), cell_other _ _ _ _ _ (by omega), cell_other _ _ _ _ _ (by omega)]
theorem put3_at (w : World) (B o : Nat) (x0 x1 x2 : Value) (h : ∀ j, o ≤ j → j < o + 3 → ∃ v, w.cell? ⟨B, j, none⟩ = some v) :
    (put3 w B o x0 x1 x2).cell? ⟨B, o, none⟩ = some x0 ∧ (put3 w B o x0 x1 x2).cell? ⟨B, o + 1, none⟩ = some x1 ∧ (put3 w B o x0 x1 x2).cell? ⟨B, o + 2, none⟩ = some x2 := by
  have hs : ∀ j, o ≤ j → j < o + 3 → (w.cell? ⟨B, j, none⟩).isSome = true := fun j h1 h2 => by obtain ⟨v, hv⟩ := h j h1 h2; rw [hv]; rfl
  unfold put3
  refine ⟨?_, ?_, ?_⟩
  · rw [cell_other _ _ _ _ _ (by omega), cell_other _ _ _ _ _ (by omega)]
    exact cell_same _ _ _ _ (hs _ (by omega) (by omega))
  · rw [cell_other _ _ _ _ _ (by omega)]
    exact cell_same _ _ _ _ (by rw [cell_other _ _ _ _ _ (by omega)]; exact hs _ (by omega) (by omega))
  · exact cell_same _ _ _ _ (by rw [cell_other _ _ _ _ _ (by omega), cell_other _ _ _ _ _ (by omega)]; exact hs _ (by omega) (by omega))
theorem infoSig : (Tryz.prog.info? 52).map (fun i => (i.zero, i.size, i.bytes)) = some (some (.agg #[.string ⟨#[]⟩, .slice none 0 0, .int .i64 0]), 3, 48) := by kernel_rfl
theorem makeSigs (n : Nat) (hn : n ≤ 1048576) : ∃ M : Array Value, M.size = n * 3 ∧ ∀ W : World, (Instr.makeSlice 34 (.int .i64 (n : Int)) (.int .i64 (n : Int))).run Tryz.prog W = .ok (.slice (some ⟨W.heap.size, 0, none⟩) n n) (W.alloc (.cells M 52)) := by
  obtain ⟨i0, hi, hz0, hz1, hz2⟩ := info_parts infoSig
  refine ⟨madeCells (Value.cells (.agg #[.string ⟨#[]⟩, .slice none 0 0, .int .i64 0])) (((n : Nat) : Int).toNat * i0.size), by rw [size_madeCells, hz1]; simp, fun W => ?_⟩
  have h := run_make (P := Tryz.prog) W 34 52 i0 _ Tryz.underlying34 hi hz0 .i64 .i64 (n : Int) (n : Int) (by omega) (by omega) (by rw [hz2]; omega) (by omega)
  simpa using h
/-- The first k elements lie copied in the block B. -/
def CopiedSig (w : World) (B : Nat)  (k : Nat) (kids : List TS) : Prop := ∀ j (hj : j < kids.length), j < k → ∃ c0 c1 c2 : Value,
  w.cell? ⟨B, j * 3, none⟩ = some c0 ∧ w.cell? ⟨B, j * 3 + 1, none⟩ = some c1 ∧ w.cell? ⟨B, j * 3 + 2, none⟩ = some c2 ∧ (IsSig w (B + 1) w.heap.size) (.agg #[c0, c1, c2]) kids[j]
theorem CopiedSig.next {w w2 : World} {B : Nat}  {k : Nat} {kids : List TS} {x0 x1 x2 : Value} (hp : k < kids.length) (hD : CopiedSig w B  k kids) (hz : B < w.heap.size) (hb2 : Below w.heap.size w w2)
    (hc : ∀ j, j < kids.length * 3 → ∃ v, w2.cell? ⟨B, j, none⟩ = some v) (hE : (IsSig w2 w.heap.size w2.heap.size) (.agg #[x0, x1, x2]) (kids[k]'hp)) : CopiedSig (put3 w2 B (k * 3) x0 x1 x2) B  (k + 1) kids := by
  intro j hj hjk
  have hs2 : Same (B + 1) w2.heap.size w2 (put3 w2 B (k * 3) x0 x1 x2) := fun b h1 h2 => put3_heap _ _ _ _ _ _ b (by omega)
  have hsz := put3_size w2 B (k * 3) x0 x1 x2
  by_cases e : j = k
  · subst e
    obtain ⟨a0, a1, a2⟩ := put3_at w2 B (j * 3) x0 x1 x2 (fun i h1 h2 => hc i (by omega))
    exact ⟨x0, x1, x2, a0, a1, a2, IsSig.same  (fun b h1 h2 => hs2 b (by omega) h2) (by omega) (by omega) _ _ hE⟩
  · obtain ⟨c0, c1, c2, d0, d1, d2, hr⟩ := hD j hj (by omega)
    have hcc : ∀ i, i < k * 3 → (put3 w2 B (k * 3) x0 x1 x2).cell? ⟨B, i, none⟩ = w.cell? ⟨B, i, none⟩ := fun i hi =>
      (put3_other w2 B (k * 3) x0 x1 x2 i (by omega)).trans (hb2.cell (p := ⟨B, i, none⟩) hz)
    refine ⟨c0, c1, c2, (hcc _ (by omega)).trans d0, (hcc _ (by omega)).trans d1, (hcc _ (by omega)).trans d2, IsSig.same  (fun b h1 h2 => ?_) (Nat.le_refl _) (by have := hb2.size; omega) _ _ hr⟩
    exact (hs2 b h1 (by have := hb2.size; omega)).trans (hb2.block b h2)

end Go.Proofs.YtffabnmgcicpiaaGreat

namespace Go.Proofs.YtffabnmgcicpiaaGreat
open Go.RowKit Go.PlainAid

end Go.Proofs.YtffabnmgcicpiaaGreat
