/- Signatures of faces in memory. No conditions. -/
import Derived.Test.YtifcfjjlgehopaaFb
namespace Go.Proofs.Ytifcfjjlgehopaa
open Go.RowKit Go.PlainAid

/-- A signature. -/
structure TS where
  name : ByteArray
  args : List Int
  type : Int
def TS.wt (s : TS) : Nat := s.name.size + s.args.length
/-- A value that is a signature, its numbers in the blocks from lo on and below n. -/
def IsSig (w : World) (lo n : Nat) (v : Value) (s : TS) : Prop :=
  ∃ (aa : Option Addr) (ca : Nat), v = .agg #[.string s.name, .slice aa s.args.length ca, .int .i64 s.type] ∧ (s.name.size ≤ maxLen ∧ s.args.length ≤ maxLen) ∧ IsInts w lo n aa s.args
theorem IsSig.same {w w' : World} {lo n lo' n' : Nat} (hs : Same lo n w w') (hl : lo' ≤ lo) (hn : n ≤ n') (v : Value) (s : TS) (h : IsSig w lo n v s) : IsSig w' lo' n' v s := by
  obtain ⟨aa, ca, hv, hz, ha⟩ := h
  exact ⟨aa, ca, hv, hz, ha.same hs hl hn⟩
theorem IsSig.kept {w w' : World} {lo n m : Nat} {v : Value} {s : TS} (h : IsSig w lo n v s) (hb : Below n w w') (hnm : n ≤ m) : IsSig w' lo m v s := IsSig.same (Below.same hb) (Nat.le_refl _) hnm v s h
theorem IsSig.form {w : World} {lo n : Nat} {c0 c1 c2 : Value} {s : TS} (h : IsSig w lo n (.agg #[c0, c1, c2]) s) : ∃ (xs : ByteArray) (xa : Option Addr) (xl xc : Nat) (xt : Int), c0 = .string xs ∧ c1 = .slice xa xl xc ∧ c2 = .int .i64 xt := by
  obtain ⟨aa, ca, hv, hz, ha⟩ := h
  simp only [Value.agg.injEq, Array.mk.injEq, List.cons.injEq] at hv
  exact ⟨_, _, _, _, _, hv.1, hv.2.1, hv.2.2.1⟩
end Go.Proofs.Ytifcfjjlgehopaa
