/- Functions of objects in memory. No conditions. -/
import Derived.Test.YtakcpfmpaopfdaaCd
namespace Go.Proofs.Ytakcpfmpaopfdaa
open Go.RowKit Go.PlainAid

/-- A function as instructions. -/
structure TC where
  name : ByteArray
  pub : Bool
  args : List Int
  type : Int
  slots : Int
  code : List TI
def TC.wt (f : TC) : Nat := f.name.size + f.args.length + f.code.length
/-- A value that is a function, all of it in the blocks from lo on and below n. -/
def IsCf (w : World) (lo n : Nat) (v : Value) (f : TC) : Prop :=
  ∃ (aa : Option Addr) (ca : Nat) (ba : Option Addr) (cb : Nat), v = .agg #[.string f.name, .bool f.pub, .slice aa f.args.length ca, .int .i64 f.type, .int .i64 f.slots, .slice ba f.code.length cb] ∧ (f.name.size ≤ maxLen ∧ f.args.length ≤ maxLen ∧ f.code.length ≤ maxLen) ∧ IsInts w lo n aa f.args ∧ IsCis (IsCi w lo n) w lo n ba f.code
theorem IsCf.same {w w' : World} {lo n lo' n' : Nat} (hs : Same lo n w w') (hl : lo' ≤ lo) (hn : n ≤ n') (v : Value) (f : TC) (h : IsCf w lo n v f) : IsCf w' lo' n' v f := by
  obtain ⟨aa, ca, ba, cb, hv, hz, ha, hb⟩ := h
  exact ⟨aa, ca, ba, cb, hv, hz, ha.same hs hl hn, hb.mono (fun v e he => IsCi.same hs hl hn v e he) hs hl hn⟩
theorem IsCf.form {w : World} {lo n : Nat} {c0 c1 c2 c3 c4 c5 : Value} {f : TC} (h : IsCf w lo n (.agg #[c0, c1, c2, c3, c4, c5]) f) :
    ∃ (xs : ByteArray) (xp : Bool) (xa : Option Addr) (xl xc : Nat) (xt xm : Int) (ya : Option Addr) (yl yc : Nat), c0 = .string xs ∧ c1 = .bool xp ∧ c2 = .slice xa xl xc ∧ c3 = .int .i64 xt ∧ c4 = .int .i64 xm ∧ c5 = .slice ya yl yc := by
  obtain ⟨aa, ca, ba, cb, hv, hz, ha, hb⟩ := h
  simp only [Value.agg.injEq, Array.mk.injEq, List.cons.injEq] at hv
  obtain ⟨h0, h1, h2, h3, h4, h5, _⟩ := hv
  exact ⟨_, _, _, _, _, _, _, _, _, _, h0, h1, h2, h3, h4, h5⟩
end Go.Proofs.Ytakcpfmpaopfdaa
