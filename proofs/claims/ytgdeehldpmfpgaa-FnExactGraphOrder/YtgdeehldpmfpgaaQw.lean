/- The walk of graphHeap's Push. Conditions: the heap's row is in a block of its own. -/
import Derived.Test.YtgdeehldpmfpgaaQv
import Derived.Deep.RegionLaw
namespace Go.Proofs.Ytgdeehldpmfpgaa
open Go.RowKit Go.PlainAid

/-- A step of a region that draws its order: appending, its run being known. -/
theorem step_run {P : Program} {w : World} {ops : Array Oper} {o : Oper} {a : Act} {K : Act → World → Prop} {Q : Exit → Act → World → Prop} {E : Prop} (hgd : o.guard = none) (s x : Operand) (t : TypeId)
    (ho : o.op = .call { callee := .builtin .append, args := #[s, x], argTypes := #[t, t] }) (hty : o.type = t) (v y : Value) (hs : a.eval s = v) (hx : a.eval x = y) (v' : Value) (w' : World) (hr : (Builtin.append_ #[t, t] t #[v, y]).run P w = .ok v' w') (h : K (a.put o.dst v') w') :
    if Region.wanted o (yielded ops a.tmps) = true then Oper.wp P o a w K Q else E := by
  have hw : Region.wanted o (yielded ops a.tmps) = true := by simp [Region.wanted, hgd]
  rw [if_pos hw]
  unfold Oper.wp execOp
  simp only [ho, hty, resolve, invoke, builtin, Sem.run_bind, Sem.run_pure, Result.andThen_ok, List.map_toArray, List.map_cons, List.map_nil, hs, hx, hr]
  exact h
/-- What is kept where the heap in a variable turns: all blocks but the variable's and the heap's own. -/
structure Kept (w w' : World) (L o : Nat) (own : Option Nat) : Prop where
  os : w'.os = w.os
  tape : w'.tape = w.tape
  output : w'.output = w.output
  size : w.heap.size ≤ w'.heap.size
  block : ∀ b, b < w.heap.size → b ≠ L → some b ≠ own → w'.heap[b]? = w.heap[b]?
  cell : ∀ i, i ≠ o → w'.cell? ⟨L, i, none⟩ = w.cell? ⟨L, i, none⟩
  frozen : ∀ i, w'.frozen? ⟨L, i, none⟩ = w.frozen? ⟨L, i, none⟩
theorem Kept.of_grown {w w' : World} {L o : Nat} {own : Option Nat} (h : w.grownBy w' own) (hL : L < w.heap.size) (ho : some L ≠ own) : Kept w w' L o own :=
  ⟨h.os, h.tape, h.output, h.size, fun b hb _ hn => h.block b hb hn, fun i _ => World.cell?_of_block (w := w) (a := ⟨L, i, none⟩) (h.block L hL ho), fun i => World.frozen?_of_block (w := w) (a := ⟨L, i, none⟩) (h.block L hL ho)⟩
theorem Kept.trans {w w' w'' : World} {L o : Nat} {own own' : Option Nat} (h : Kept w w' L o own) (k : Kept w' w'' L o own') (hown : own' = own ∨ ∃ H, own' = some H ∧ w.heap.size ≤ H) : Kept w w'' L o own := by
  refine ⟨k.os.trans h.os, k.tape.trans h.tape, k.output.trans h.output, Nat.le_trans h.size k.size, fun b hb hL hn => (k.block b (Nat.lt_of_lt_of_le hb h.size) hL ?_).trans (h.block b hb hL hn), fun i hi => (k.cell i hi).trans (h.cell i hi), fun i => (k.frozen i).trans (h.frozen i)⟩
  rcases hown with e | ⟨H, e, hH⟩
  · rw [e]; exact hn
  · rw [e]; intro c; have := Option.some.inj c; omega
theorem Kept.set {w w' : World} {L o : Nat} {own : Option Nat} (h : Kept w w' L o own) (v : Value) : Kept w (w'.setCell ⟨L, o, none⟩ v) L o own :=
  ⟨h.os, h.tape, h.output, by simpa [World.setCell] using h.size, fun b hb hL hn => (Below.heap_setCell _ _ _ _ (by simpa using hL)).trans (h.block b hb hL hn), fun i hi => (World.cell?_setCell_other _ ⟨L, o, none⟩ ⟨L, i, none⟩ _ (by simp <;> omega)).trans (h.cell i hi), fun i => (World.frozen?_setCell ..).trans (h.frozen i)⟩
/-- What a push leaves: one word more in the row, in the same block or in a new one. -/
def Pushed (w : World) (base L o : Nat) (so : Option Addr) (cp n : Nat) (zs : List ByteArray) (w' : World) : Prop :=
  ∃ (so' : Option Addr) (cp' : Nat), HRow w' base so' cp' zs ∧ w'.cell? ⟨L, o, none⟩ = some (.slice so' zs.length cp') ∧ (so' = so ∨ ∃ H, so' = some ⟨H, 0, none⟩ ∧ w.heap.size ≤ H) ∧ Kept w w' L o (Value.slice so n cp).ownBlock

set_option maxRecDepth 100000 in
set_option maxHeartbeats 2000000 in
theorem hpushm_any (base L o : Nat) (so : Option Addr) (cp : Nat) (xs : List ByteArray) (s : ByteArray) (w : World) (hc : w.cell? ⟨L, o, none⟩ = some (.slice so xs.length cp)) (hf : w.frozen? ⟨L, o, none⟩ = false) (hL : L < base) (hLw : L < w.heap.size) (hbw : base ≤ w.heap.size) (h : HRow w base so cp xs) (hx : xs.length ≤ 8) :
    Calls Try.prog 116 #[.pointer (some ⟨L, o, none⟩), .iface 9 (.string s)] w fun r w' => r = .returned (.tuple #[]) ∧ Pushed w base L o so cp xs.length (xs ++ [s]) w' := by
  have hb0 : Below w.heap.size w (w.alloc (.cells #[.string s] 9)).drew := ((Below.refl _ w).alloc (Nat.le_refl _) _).drew
  have hrow : HRow (w.alloc (.cells #[.string s] 9)).drew base so cp xs := World.ownsRow.drew (World.ownsRow.alloc h _)
  obtain ⟨so', cp', X, r1, h2, h3, h4⟩ := run_app_row (w.alloc (.cells #[.string s] 9)).drew base so cp xs s w.heap.size 1 50 und50 hrow (alloc_cell w #[.string s] 9 0) hx (by show base ≤ (w.alloc (.cells #[.string s] 9)).heap.size; rw [alloc_size]; omega)
  have hown : ∀ k, (Value.slice so xs.length cp).ownBlock = some k → base ≤ k := fun k hk => (h.lt k hk).1
  have hne : some L ≠ (Value.slice so xs.length cp).ownBlock := fun e => by have := hown L e.symm; omega
  have k1 : Kept w X L o (Value.slice so xs.length cp).ownBlock := (Kept.of_grown (gr_below hb0 _) hLw hne).trans (Kept.of_grown h4 (by show L < (w.alloc (.cells #[.string s] 9)).heap.size; rw [alloc_size]; omega) hne) (.inl rfl)
  have c1 : X.cell? ⟨L, o, none⟩ = some (.slice so xs.length cp) := (World.cell?_of_block (w := (w.alloc (.cells #[.string s] 9)).drew) (a := ⟨L, o, none⟩) (h4.block L (by show L < (w.alloc (.cells #[.string s] 9)).heap.size; rw [alloc_size]; omega) hne)).trans ((hb0.cell (p := ⟨L, o, none⟩) hLw).trans hc)
  have f1 : X.frozen? ⟨L, o, none⟩ = false := (k1.frozen o).trans hf
  have hta : ∀ W : World, (Instr.typeAssert (.iface 9 (.string s)) 20 9 false).run Try.prog W = .ok (.string s) W := fun _ => by kernel_rfl
  have HP : Hid (Pushed w base L o so cp xs.length (xs ++ [s]) (X.setCell ⟨L, o, none⟩ (.slice so' (xs.length + 1) cp'))) := hide (by
    refine ⟨so', cp', ownsRow_setCell_below h2 hL _, ?_, ?_, k1.set _⟩
    · rw [List.length_append]
      exact cell_same _ _ _ _ (by rw [c1]; rfl)
    · rcases h3 with e | e
      · exact .inl e
      · exact .inr ⟨_, e, by show w.heap.size ≤ (w.alloc (.cells #[.string s] 9)).heap.size; rw [alloc_size]; omega⟩)
  clear h hrow h2 h3 h4 hb0 k1 hown hne
  go_enter Try.func116, Try.ntmps116
  go_wp2
  go_region_law (refine step_run rfl (.tmp 7) (.tmp 10) 50 rfl rfl (.slice so xs.length cp) (.slice (some ⟨w.heap.size, 0, none⟩) 1 1) rfl rfl (.slice so' (xs.length + 1) cp') X (by exact r1) ?_)
  all_goals
    go_wp2
    go_end0
    exact ⟨rfl, unhide HP⟩
end Go.Proofs.Ytgdeehldpmfpgaa
