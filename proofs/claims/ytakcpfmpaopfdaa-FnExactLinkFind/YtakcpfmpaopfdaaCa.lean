/- Instructions and references of objects in memory. No conditions. -/
import Derived.Test.YtakcpfmpaopfdaaFb
namespace Go.Proofs.Ytakcpfmpaopfdaa
open Go.RowKit Go.PlainAid

/-- An instruction. -/
structure TI where
  op : Int
  a : Int
  deriving DecidableEq
def TI.wt (_ : TI) : Nat := 0
def IsCi (_ : World) (_ _ : Nat) (v : Value) (x : TI) : Prop := v = .agg #[.int .i64 x.op, .int .i64 x.a]
theorem IsCi.same {w w' : World} {lo n lo' n' : Nat} (_ : Same lo n w w') (_ : lo' ≤ lo) (_ : n ≤ n') (v : Value) (x : TI) (h : IsCi w lo n v x) : IsCi w' lo' n' v x := h
theorem IsCi.form {w : World} {lo n : Nat} {c0 c1 : Value} {x : TI} (h : IsCi w lo n (.agg #[c0, c1]) x) : ∃ s t : Int, c0 = .int .i64 s ∧ c1 = .int .i64 t := by
  unfold IsCi at h
  simp only [Value.agg.injEq, Array.mk.injEq, List.cons.injEq] at h
  exact ⟨_, _, h.1, h.2.1⟩
/-- A reference. -/
structure TR where
  mod : ByteArray
  name : ByteArray
def TR.wt (x : TR) : Nat := x.mod.size + x.name.size
def IsCr (_ : World) (_ _ : Nat) (v : Value) (x : TR) : Prop := v = .agg #[.string x.mod, .string x.name] ∧ x.mod.size ≤ maxLen ∧ x.name.size ≤ maxLen
theorem IsCr.same {w w' : World} {lo n lo' n' : Nat} (_ : Same lo n w w') (_ : lo' ≤ lo) (_ : n ≤ n') (v : Value) (x : TR) (h : IsCr w lo n v x) : IsCr w' lo' n' v x := h
theorem IsCr.form {w : World} {lo n : Nat} {c0 c1 : Value} {x : TR} (h : IsCr w lo n (.agg #[c0, c1]) x) : ∃ s t : ByteArray, c0 = .string s ∧ c1 = .string t := by
  have := h.1
  simp only [Value.agg.injEq, Array.mk.injEq, List.cons.injEq] at this
  exact ⟨_, _, this.1, this.2.1⟩
end Go.Proofs.Ytakcpfmpaopfdaa
