/- What a line of nodes keeps beside a row of its own: frames. Conditions: the line lies there. -/
import Derived.Test.YtgdeehldpmfpgaaQie
import Derived.Test.YtgdeehldpmfpgaaQg
namespace Go.Proofs.Ytgdeehldpmfpgaa
open Go.RowKit Go.PlainAid

theorem LK.below {w w' : World} {L M N : Nat} {own : Option Nat} (h : LK w w' L M own) (hN : N ≤ w.heap.size) (hL : N ≤ L) (hM : N ≤ M) (ho : ∀ k, own = some k → N ≤ k) : Below N w w' where
  os := h.os
  tape := h.tape
  output := h.output
  size := h.size
  block := fun b hb => h.block b (by omega) (by omega) (by omega) (fun e => by have := ho b e.symm; omega)
theorem Line.start (w : World) : Line ((w.alloc (.map #[] 0)).alloc (.cells #[.map (some w.heap.size), .slice none 0 0] 52)) (w.heap.size + 2) (w.heap.size + 1) w.heap.size 0 (fun _ => 0) none 0 [] := by
  have hs : (w.alloc (.map #[] 0)).heap.size = w.heap.size + 1 := by simp
  have kb := Blk.new (w.alloc (.map #[] 0)) [.map (some w.heap.size), .slice none 0 0] 52
  rw [hs] at kb
  refine ⟨by omega, by omega, by omega, by simp, kb.cellAt (i := 0) rfl, ?_, kb.cellAt (i := 1) rfl, ?_, World.ownsRow_nil _ _ _ _, fun c h0 hc => absurd hc (Nat.not_lt_zero _)⟩
  · exact (MM.made w).block (((Below.refl _ (w.alloc (.map #[] 0))).alloc (Nat.le_refl _) _).block _ (by simp))
  · simp

/-- A line is kept by what grows another block. -/
theorem Line.grown {w w' : World} {base L M n : Nat} {F : List UInt8 → Int} {so : Option Addr} {cp : Nat} {xs : List ByteArray} {row : Option Nat} (h : Line w base L M n F so cp xs) (hg : w.grownBy w' row) (hr : ∀ k, row = some k → base ≤ k) (hne : (Value.slice so xs.length cp).ownBlock = none ∨ (Value.slice so xs.length cp).ownBlock ≠ row) : Line w' base L M n F so cp xs := by
  have hLw := Nat.lt_of_lt_of_le h.lL h.bw
  have hMw := Nat.lt_of_lt_of_le h.lM h.bw
  have hL : some L ≠ row := fun e => by have := hr L e.symm; have := h.lL; omega
  have hM : some M ≠ row := fun e => by have := hr M e.symm; have := h.lM; omega
  have hb := hg.block L hLw hL
  exact ⟨h.lL, h.lM, h.ne, Nat.le_trans h.bw hg.size, (World.cell?_of_block (w := w) (a := ⟨L, 0, none⟩) hb).trans h.c0, h.mm.block (hg.block M hMw hM), (World.cell?_of_block (w := w) (a := ⟨L, 1, none⟩) hb).trans h.c1, (World.frozen?_of_block (w := w) (a := ⟨L, 1, none⟩) hb).trans h.fz, World.ownsRow.kept h.row hg hne, h.hp⟩
/-- A row is kept by what a line does, if it is not the line's. -/
theorem HRow.lk {w w' : World} {base L M : Nat} {so : Option Addr} {cp : Nat} {xs : List ByteArray} {own : Option Nat} (h : HRow w base so cp xs) (hk : LK w w' L M own) (hL : L < base) (hM : M < base) (hne : (Value.slice so xs.length cp).ownBlock = none ∨ (Value.slice so xs.length cp).ownBlock ≠ own) : HRow w' base so cp xs := by
  refine ⟨h.1, ?_⟩
  rcases h.2 with h2 | ⟨g, cap, cur, h1, hb, hg, h3⟩
  · exact .inl h2
  · refine .inr ⟨g, cap, cur, h1, hb, ?_, h3⟩
    have hlt : g < w.heap.size := by
      rcases Nat.lt_or_ge g w.heap.size with e | e
      · exact e
      · rw [Array.getElem?_eq_none e] at hg; cases hg
    rw [hk.block g hlt (by omega) (by omega) (fun e => ?_)]
    · exact hg
    · rw [h1] at hne
      rcases hne with c | c
      · cases c
      · exact c e
/-- Two rows do not share a block. -/
def Apart (v u : Value) : Prop := ∀ k, v.ownBlock = some k → u.ownBlock ≠ some k
theorem Apart.ne {v u : Value} (h : Apart v u) : v.ownBlock = none ∨ v.ownBlock ≠ u.ownBlock := by
  cases e : v.ownBlock with
  | none => exact .inl rfl
  | some k => exact .inr (fun c => h k e c.symm)
theorem Apart.symm {v u : Value} (h : Apart v u) : Apart u v := fun k e c => h k c e
end Go.Proofs.Ytgdeehldpmfpgaa
