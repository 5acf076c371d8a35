/- Worlds that keep what was there, and in which nothing new is shut against writing. No conditions. -/
import Derived.Test.YtgdeehldpmfpgaaFa
namespace Go.Proofs.Ytgdeehldpmfpgaa
open Go.RowKit Go.PlainAid

/-- 'Below', and what may be written may still be; what is new may be written. -/
structure Bf (B : Nat) (w w' : World) : Prop extends Below B w w' where
  fz : ∀ b j, b < w.heap.size → w'.frozen? ⟨b, j, none⟩ = w.frozen? ⟨b, j, none⟩
  fr : ∀ b j, w.heap.size ≤ b → w'.frozen? ⟨b, j, none⟩ = false
theorem frozen_out (w : World) (b j : Nat) (h : w.heap.size ≤ b) : w.frozen? ⟨b, j, none⟩ = false := by
  unfold World.frozen?
  rw [show w.heap[(⟨b, j, none⟩ : Addr).block]? = none from Array.getElem?_eq_none h]
theorem Bf.refl (B : Nat) (w : World) : Bf B w w := ⟨Below.refl B w, fun _ _ _ => rfl, fun b j h => frozen_out w b j h⟩
theorem Bf.trans {B : Nat} {a b c : World} (h : Bf B a b) (k : Bf B b c) : Bf B a c := by
  refine ⟨h.toBelow.trans k.toBelow, fun x j hx => ?_, fun x j hx => ?_⟩
  · have := h.size
    exact (k.fz x j (by omega)).trans (h.fz x j hx)
  · by_cases e : x < b.heap.size
    · exact (k.fz x j e).trans (h.fr x j hx)
    · exact k.fr x j (by omega)
theorem Bf.mono {B B' : Nat} {w w' : World} (h : Bf B w w') (hB : B' ≤ B) : Bf B' w w' := ⟨h.toBelow.mono hB, h.fz, h.fr⟩
theorem Bf.drew {B : Nat} {a w : World} (h : Bf B a w) : Bf B a w.drew := ⟨h.toBelow.drew, h.fz, h.fr⟩
theorem frozen_alloc (w : World) (C : Array Value) (t : TypeId) (p : Addr) : (w.alloc (.cells C t)).frozen? p = w.frozen? p := frozen?_alloc_cells w C t p
theorem Bf.alloc {B : Nat} {a w : World} (h : Bf B a w) (hB : B ≤ w.heap.size) (o : Obj) (ho : ∃ C t, o = .cells C t := by exact ⟨_, _, rfl⟩) : Bf B a (w.alloc o) := by
  obtain ⟨C, t, rfl⟩ := ho
  exact ⟨h.toBelow.alloc hB _, fun b j hb => (frozen_alloc _ _ _ _).trans (h.fz b j hb), fun b j hb => (frozen_alloc _ _ _ _).trans (h.fr b j hb)⟩
theorem Bf.setCell {B : Nat} {a w : World} (h : Bf B a w) {p : Addr} (hp : B ≤ p.block) (u : Value) : Bf B a (w.setCell p u) :=
  ⟨h.toBelow.setCell hp u, fun b j hb => (World.frozen?_setCell ..).trans (h.fz b j hb), fun b j hb => (World.frozen?_setCell ..).trans (h.fr b j hb)⟩
end Go.Proofs.Ytgdeehldpmfpgaa
