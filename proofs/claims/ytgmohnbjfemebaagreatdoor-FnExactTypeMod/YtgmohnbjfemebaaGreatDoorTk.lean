/- Functions of a module in memory. No conditions. -/
import Derived.Test.YtgmohnbjfemebaaGreatDoorTj
namespace Go.Proofs.YtgmohnbjfemebaaGreatDoor
open Go.RowKit Go.PlainAid

/-- A function. -/
structure TF where
  name : ByteArray
  pub : Bool
  args : List TA
  type : Int
  body : TE
def TF.wt (f : TF) : Nat := f.name.size + (f.args.length + wtArgs f.args) + f.body.wt
/-- A value that is a function, all of it in the blocks from lo on and below n. -/
def IsFun (w : World) (lo n h : Nat) (v : Value) (f : TF) : Prop :=
  ∃ (aa : Option Addr) (ca : Nat) (b0 b1 b2 b3 b4 : Value), v = .agg #[.string f.name, .bool f.pub, .slice aa f.args.length ca, .int .i64 f.type, b0, b1, b2, b3, b4] ∧ (f.name.size ≤ maxLen ∧ f.args.length ≤ maxLen) ∧ IsArgs (IsArg w lo n) w lo n aa f.args ∧ IsE w lo n h (.agg #[b0, b1, b2, b3, b4]) f.body
theorem IsFun.same {w w' : World} {lo n lo' n' : Nat} (h : Nat) (hs : Same lo n w w') (hl : lo' ≤ lo) (hn : n ≤ n') (v : Value) (f : TF) (hF : IsFun w lo n h v f) : IsFun w' lo' n' h v f := by
  obtain ⟨aa, ca, b0, b1, b2, b3, b4, hv, hz, ha, hE⟩ := hF
  exact ⟨aa, ca, b0, b1, b2, b3, b4, hv, hz, ha.mono (fun v e he => IsArg.same hs hl hn v e he) hs hl hn, IsE.same hs hl hn h _ _ hE⟩
theorem IsFun.form {w : World} {lo n : Nat} (h : Nat) {c0 c1 c2 c3 c4 c5 c6 c7 c8 : Value} {f : TF} (hF : IsFun w lo n h (.agg #[c0, c1, c2, c3, c4, c5, c6, c7, c8]) f) :
    ∃ (xs : ByteArray) (xp : Bool) (xa : Option Addr) (xl xc : Nat) (xt xk xm : Int) (xn xd : ByteArray) (ya : Option Addr) (yl yc : Nat), c0 = .string xs ∧ c1 = .bool xp ∧ c2 = .slice xa xl xc ∧ c3 = .int .i64 xt ∧ c4 = .int .i64 xk ∧ c5 = .int .i64 xm ∧ c6 = .string xn ∧ c7 = .string xd ∧ c8 = .slice ya yl yc := by
  obtain ⟨aa, ca, b0, b1, b2, b3, b4, hv, hz, ha, hE⟩ := hF
  obtain ⟨k, m, nm, md, a, len, cap, e0, e1, e2, e3, e4⟩ := hE.form5
  subst e0 e1 e2 e3 e4
  simp only [Value.agg.injEq, Array.mk.injEq, List.cons.injEq] at hv
  obtain ⟨h0, h1, h2, h3, h4, h5, h6, h7, h8, _⟩ := hv
  exact ⟨_, _, _, _, _, _, _, _, _, _, _, _, _, h0, h1, h2, h3, h4, h5, h6, h7, h8⟩
end Go.Proofs.YtgmohnbjfemebaaGreatDoor
