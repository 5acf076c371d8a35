/- Parts of links in memory. No conditions. -/
import Derived.Test.YtakcpfmpaopfdaaCi
namespace Go.Proofs.Ytakcpfmpaopfdaa
open Go.RowKit Go.PlainAid

theorem IsObj.two {w : World} {lo n : Nat} {v : Value} {o : TO} (h : IsObj w lo n v o) : ∃ (aa : Option Addr) (ca : Nat) (ba : Option Addr) (cb : Nat), v = .agg #[.slice aa o.refs.length ca, .slice ba o.funs.length cb] := by
  obtain ⟨aa, ca, ba, cb, hv, _⟩ := h
  exact ⟨_, _, _, _, hv⟩
/-- A part: an object with its name. -/
structure TP where
  name : ByteArray
  obj : TO
def TP.wt (x : TP) : Nat := x.name.size + x.obj.wt
/-- A value that is a part, all of it in the blocks from lo on and below n. -/
def IsPa (w : World) (lo n : Nat) (v : Value) (x : TP) : Prop := ∃ (aa : Option Addr) (ca : Nat) (ba : Option Addr) (cb : Nat), v = .agg #[.string x.name, .slice aa x.obj.refs.length ca, .slice ba x.obj.funs.length cb] ∧ x.name.size ≤ maxLen ∧ IsObj w lo n (.agg #[.slice aa x.obj.refs.length ca, .slice ba x.obj.funs.length cb]) x.obj
theorem IsPa.same {w w' : World} {lo n lo' n' : Nat} (hs : Same lo n w w') (hl : lo' ≤ lo) (hn : n ≤ n') (v : Value) (x : TP) (h : IsPa w lo n v x) : IsPa w' lo' n' v x := by
  obtain ⟨aa, ca, ba, cb, hv, hz, ho⟩ := h
  exact ⟨aa, ca, ba, cb, hv, hz, IsObj.same hs hl hn _ x.obj ho⟩
theorem IsPa.form {w : World} {lo n : Nat} {c0 c1 c2 : Value} {x : TP} (h : IsPa w lo n (.agg #[c0, c1, c2]) x) :
    ∃ (xs : ByteArray) (xa : Option Addr) (xl xc : Nat) (ya : Option Addr) (yl yc : Nat), c0 = .string xs ∧ c1 = .slice xa xl xc ∧ c2 = .slice ya yl yc := by
  obtain ⟨aa, ca, ba, cb, hv, hz, ho⟩ := h
  simp only [Value.agg.injEq, Array.mk.injEq, List.cons.injEq] at hv
  exact ⟨_, _, _, _, _, _, _, hv.1, hv.2.1, hv.2.2.1⟩
end Go.Proofs.Ytakcpfmpaopfdaa
