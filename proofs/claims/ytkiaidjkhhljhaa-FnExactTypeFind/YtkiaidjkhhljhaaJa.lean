/- Faces of modules that are used, in memory. No conditions. -/
import Derived.Test.YtkiaidjkhhljhaaFe
namespace Go.Proofs.Ytkiaidjkhhljhaa
open Go.RowKit Go.PlainAid

/-- The face of a module that is used. -/
structure TY where
  mod : ByteArray
  sigs : List TS
def TY.wt (s : TY) : Nat := s.mod.size + (s.sigs.length + wtSigs s.sigs)
/-- A value that is such a face, its lines in the blocks from lo on and below n. -/
def IsFace (w : World) (lo n : Nat) (v : Value) (s : TY) : Prop :=
  ∃ (aa : Option Addr) (ca : Nat), v = .agg #[.string s.mod, .slice aa s.sigs.length ca] ∧ (s.mod.size ≤ maxLen ∧ s.sigs.length ≤ maxLen) ∧ IsSigs (IsSig w lo n) w lo n aa s.sigs
theorem IsFace.same {w w' : World} {lo n lo' n' : Nat} (hs : Same lo n w w') (hl : lo' ≤ lo) (hn : n ≤ n') (v : Value) (s : TY) (h : IsFace w lo n v s) : IsFace w' lo' n' v s := by
  obtain ⟨aa, ca, hv, hz, ha⟩ := h
  exact ⟨aa, ca, hv, hz, ha.mono (fun v e he => IsSig.same hs hl hn v e he) hs hl hn⟩
theorem IsFace.kept {w w' : World} {lo n m : Nat} {v : Value} {s : TY} (h : IsFace w lo n v s) (hb : Below n w w') (hnm : n ≤ m) : IsFace w' lo m v s := IsFace.same (Below.same hb) (Nat.le_refl _) hnm v s h
theorem IsFace.form {w : World} {lo n : Nat} {c0 c1 : Value} {s : TY} (h : IsFace w lo n (.agg #[c0, c1]) s) : ∃ (xs : ByteArray) (xa : Option Addr) (xl xc : Nat), c0 = .string xs ∧ c1 = .slice xa xl xc := by
  obtain ⟨aa, ca, hv, hz, ha⟩ := h
  simp only [Value.agg.injEq, Array.mk.injEq, List.cons.injEq] at hv
  exact ⟨_, _, _, _, hv.1, hv.2.1⟩
end Go.Proofs.Ytkiaidjkhhljhaa
