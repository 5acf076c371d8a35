/- Rows of numbers that a call made, and the walks of markIntS and heldIntS. Conditions: the row lies in a block of its own. -/
import Derived.Test.YtgmohnbjfemebaaGreatDoorFb
namespace Go.Proofs.YtgmohnbjfemebaaGreatDoor
open Go.RowKit Go.PlainAid

/-- A value that is a row of numbers in a block of its own, from lo on and below n, that may be written. -/
def OwnI (w : World) (lo n : Nat) (v : Value) (zs : List Int) : Prop :=
  ∃ (a : Option Addr) (cap : Nat), v = .slice a zs.length cap ∧ (zs = [] ∨ ∃ b : Nat, a = some ⟨b, 0, none⟩ ∧ lo ≤ b ∧ b < n ∧ (∀ j (hj : j < zs.length), w.cell? ⟨b, j, none⟩ = some (.int .i64 zs[j])) ∧ ∀ j, w.frozen? ⟨b, j, none⟩ = false)
theorem OwnI.same {w w' : World} {lo n lo' n' : Nat} {v : Value} {zs : List Int} (h : OwnI w lo n v zs) (hb : ∀ b, lo ≤ b → b < n → (∀ j, w'.cell? ⟨b, j, none⟩ = w.cell? ⟨b, j, none⟩) ∧ ∀ j, w'.frozen? ⟨b, j, none⟩ = w.frozen? ⟨b, j, none⟩) (hl : lo' ≤ lo) (hn : n ≤ n') : OwnI w' lo' n' v zs := by
  obtain ⟨a, cap, hv, h⟩ := h
  refine ⟨a, cap, hv, ?_⟩
  rcases h with h | ⟨b, h1, h2, h3, h4, h5⟩
  · exact .inl h
  · exact .inr ⟨b, h1, by omega, by omega, fun j hj => ((hb b h2 h3).1 j).trans (h4 j hj), fun j => ((hb b h2 h3).2 j).trans (h5 j)⟩
theorem OwnI.kept {w w' : World} {lo n m : Nat} {v : Value} {zs : List Int} (h : OwnI w lo n v zs) (hb : Below n w w') (hm : n ≤ m) : OwnI w' lo m v zs :=
  h.same (fun b _ hbn => ⟨fun j => hb.cell (p := ⟨b, j, none⟩) hbn, fun j => hb.frozen (p := ⟨b, j, none⟩) hbn⟩) (Nat.le_refl _) hm
theorem OwnI.ints {w : World} {lo n : Nat} {v : Value} {zs : List Int} (h : OwnI w lo n v zs) : ∃ (a : Option Addr) (cap : Nat), v = .slice a zs.length cap ∧ IsInts w lo n a zs := by
  obtain ⟨a, cap, hv, h⟩ := h
  refine ⟨a, cap, hv, ?_⟩
  rcases h with h | ⟨b, h1, h2, h3, h4, h5⟩
  · exact .inl h
  · exact .inr ⟨b, 0, h1, h2, h3, fun j hj => by rw [Nat.zero_add]; exact h4 j hj⟩

/-- The marks from k on. -/
def marksI (k n : Nat) : List Int := (List.range n).map fun i => ((k + i : Nat) : Int)
theorem marksI_len (k n : Nat) : (marksI k n).length = n := by simp [marksI]
theorem marksI_at (k n j : Nat) (h : j < (marksI k n).length) : (marksI k n)[j] = ((k + j : Nat) : Int) := by simp [marksI]

end Go.Proofs.YtgmohnbjfemebaaGreatDoor
