/- Parameters of functions. No conditions. -/
import Derived.Test.YtgmohnbjfemebaaGreatDoorTf
import Derived.Test.YtgmohnbjfemebaaGreatDoorTe
namespace Go.Proofs.YtgmohnbjfemebaaGreatDoor
open Go.RowKit Go.PlainAid

/-- A parameter. -/
structure TA where
  name : ByteArray
  type : Int
def TA.wt (a : TA) : Nat := a.name.size
def IsArg (_ : World) (_ _ : Nat) (v : Value) (a : TA) : Prop := v = .agg #[.string a.name, .int .i64 a.type] ∧ a.name.size ≤ maxLen
theorem IsArg.same {w w' : World} {lo n lo' n' : Nat} (_ : Same lo n w w') (_ : lo' ≤ lo) (_ : n ≤ n') (v : Value) (a : TA) (h : IsArg w lo n v a) : IsArg w' lo' n' v a := h
theorem IsArg.form {w : World} {lo n : Nat} {c0 c1 : Value} {a : TA} (h : IsArg w lo n (.agg #[c0, c1]) a) : ∃ (s : ByteArray) (t : Int), c0 = .string s ∧ c1 = .int .i64 t := by
  have := h.1
  simp only [Value.agg.injEq, Array.mk.injEq, List.cons.injEq] at this
  exact ⟨_, _, this.1, this.2.1⟩
end Go.Proofs.YtgmohnbjfemebaaGreatDoor
