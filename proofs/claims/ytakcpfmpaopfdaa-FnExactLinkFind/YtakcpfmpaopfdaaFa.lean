/- Blocks and cells: what is kept of them. No conditions. -/
import Derived.Test.YtakcpfmpaopfdaaPlain
import Derived.Below
import Derived.WalkSmall
import Derived.Deep.QuietTactic
import Derived.BigQuiet
import Derived.Deep.RegionWith
import Derived.Deep.CutRange
import Derived.Deep.AppendLies
import Derived.OwnWalk
import Derived.Laws.AppendOwn
namespace Go.Proofs.Ytakcpfmpaopfdaa
open Go.RowKit Go.PlainAid

def Same (lo n : Nat) (w w' : World) : Prop := ∀ b, lo ≤ b → b < n → w'.heap[b]? = w.heap[b]?
theorem Below.same {n lo : Nat} {w w' : World} (h : Below n w w') : Same lo n w w' := fun b _ hb => h.block b hb
theorem Same.trans {lo n : Nat} {w w' w'' : World} (h : Same lo n w w') (k : Same lo n w' w'') : Same lo n w w'' := fun b h1 h2 => (k b h1 h2).trans (h b h1 h2)
def leftI (left : Int) (n : Nat) : Int := if (n : Int) ≤ left then left - n else -1
theorem left_no {left : Int} {n : Nat} (h : left < (n : Int)) : leftI left n = -1 := if_neg (by omega)
theorem left_yes {left : Int} {n : Nat} (h : (n : Int) ≤ left) : leftI left n = left - n := if_pos h
theorem cell_other (w : World) (B i j : Nat) (v : Value) (h : i ≠ j) : (w.setCell ⟨B, i, none⟩ v).cell? ⟨B, j, none⟩ = w.cell? ⟨B, j, none⟩ :=
  World.cell?_setCell_other _ ⟨B, i, none⟩ ⟨B, j, none⟩ _ (by simp <;> omega)
theorem cell_same (w : World) (B i : Nat) (v : Value) (h : (w.cell? ⟨B, i, none⟩).isSome = true) : (w.setCell ⟨B, i, none⟩ v).cell? ⟨B, i, none⟩ = some v :=
  World.cell?_setCell_same' _ _ _ h
theorem alloc_size (w : World) (o : Obj) : (w.alloc o).heap.size = w.heap.size + 1 := by simp
theorem new_frozen (X : World) (C : Array Value) (t : TypeId) (i : Nat) : (X.alloc (.cells C t)).frozen? ⟨X.heap.size, i, none⟩ = false := by simp
theorem alloc_cell (w : World) (C : Array Value) (t : TypeId) (i : Nat) : (w.alloc (.cells C t)).cell? ⟨w.heap.size, i, none⟩ = C[i]? := World.cell?_alloc_new ..
/-- A block that holds these cells, none of them frozen. -/
def Blk (w : World) (B : Nat) (C : List Value) : Prop := (∀ i, w.cell? ⟨B, i, none⟩ = C[i]?) ∧ ∀ i, w.frozen? ⟨B, i, none⟩ = false
theorem Blk.new (w : World) (C : List Value) (t : TypeId) : Blk (w.alloc (.cells C.toArray t)) w.heap.size C := ⟨fun i => by simp, fun i => new_frozen _ _ _ _⟩
theorem Blk.below {w w' : World} {B n : Nat} {C : List Value} (h : Blk w B C) (hb : Below n w w') (hB : B < n) : Blk w' B C :=
  ⟨fun i => (hb.cell (p := ⟨B, i, none⟩) hB).trans (h.1 i), fun i => (hb.frozen (p := ⟨B, i, none⟩) hB).trans (h.2 i)⟩
theorem Blk.old {w : World} {B : Nat} {C : List Value} (h : Blk w B C) (o : Obj) (hB : B < w.heap.size) : Blk (w.alloc o) B C := h.below ((Below.refl _ _).alloc (Nat.le_refl _) _) hB
theorem Blk.set {w : World} {B : Nat} {C : List Value} (h : Blk w B C) (i : Nat) (v : Value) (hi : i < C.length) : Blk (w.setCell ⟨B, i, none⟩ v) B (C.set i v) := by
  refine ⟨fun j => ?_, fun j => by rw [World.frozen?_setCell]; exact h.2 j⟩
  by_cases e : i = j
  · subst e
    rw [cell_same _ _ _ _ (by rw [h.1 i]; simp [hi]), List.getElem?_set_self hi]
  · rw [cell_other _ _ _ _ _ e, h.1 j, List.getElem?_set_ne e]
theorem Blk.other {w : World} {B : Nat} {C : List Value} (h : Blk w B C) (B' i : Nat) (v : Value) (hB : B' ≠ B) : Blk (w.setCell ⟨B', i, none⟩ v) B C :=
  ⟨fun j => (World.cell?_setCell_other _ ⟨B', i, none⟩ ⟨B, j, none⟩ _ (by simp <;> omega)).trans (h.1 j), fun j => by rw [World.frozen?_setCell]; exact h.2 j⟩
theorem Blk.cellAt {w : World} {B i : Nat} {C : List Value} {v : Value} (h : Blk w B C) (hv : C[i]? = some v) : w.cell? ⟨B, i, none⟩ = some v := (h.1 i).trans hv
/-- A world that is this one, all that was there kept. -/
structure Bel (w : World) where
  W : World
  h : Below w.heap.size w W
/-- The walk of a region in the text's order, shut, so that nothing looks into it by itself. -/
structure WQ (P : Program) (ops : Array Oper) (C : World → Prop) (Q : Act → Prop) (l : List Oper) (a : Act) : Prop where
  out : wpQuiet P ops C Q l a
theorem WQ.step {P : Program} {ops : Array Oper} {C : World → Prop} {Q : Act → Prop} {a : Act} {o : Oper} {rest : List Oper}
    (h : ∀ K : Act → Prop, (∀ a, WQ P ops C Q rest a → K a) → if Region.wanted o (yielded ops a.tmps) then o.quiet P a C K else K (a.put o.dst undef)) : WQ P ops C Q (o :: rest) a :=
  ⟨wpQuiet_step fun K hK => h K fun a ha => hK a ha.out⟩
theorem WQ.nil {P : Program} {ops : Array Oper} {C : World → Prop} {Q : Act → Prop} {a : Act} (h : Q a) : WQ P ops C Q [] a := ⟨h⟩
/-- A region that draws its order, reads, and calls what keeps all that was there: one walk, in the text's order. -/
theorem wp_region_bel {P : Program} {id : Nat} {Q : Exit → Act → World → Prop} {a : Act} {w : World} {l : List Oper} (hm : P.follows .mixedOrders = true) (hB : Region.lexB .any l.toArray = true)
    (h : WQ P l.toArray (fun w' => ∃ p : Bel w, w' = p.W) (fun a' => ∀ w', (∃ p : Bel w, w' = p.W) → Q .normal a' w') l a) : (Code.region id l.toArray true).wp P Q a w :=
  wp_region_quiet (C := fun w' => ∃ p : Bel w, w' = p.W) hm hB ⟨⟨w.drew, (Below.refl _ _).drew⟩, rfl⟩ (by simpa using h.out)
theorem Calls.bel {P : Program} {f : FuncId} {args : Array Value} {w : World} {v : Value} (h : ∀ W, Below w.heap.size w W → Calls P f args W fun e w' => e = .returned v ∧ Below W.heap.size W w') (p : Bel w) :
    Calls P f args p.W fun e w'' => e = .returned v ∧ ∃ q : Bel w, w'' = q.W :=
  (h p.W p.h).mono fun _ w'' ⟨he, hb⟩ => ⟨he, ⟨w'', p.h.trans (hb.mono p.h.size)⟩, rfl⟩
theorem Bel.cell {w : World} {a : Addr} {v : Value} (hb : a.block < w.heap.size) (h : w.cell? a = some v) (p : Bel w) : p.W.cell? a = some v := (p.h.cell (p := a) hb).trans h
end Go.Proofs.Ytakcpfmpaopfdaa
