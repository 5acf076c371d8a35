/- Nodes of graphs in memory. No conditions. -/
import Derived.Test.YtgdeehldpmfpgaaQa
namespace Go.Proofs.Ytgdeehldpmfpgaa
open Go.RowKit Go.PlainAid

/-- A node. -/
structure TG where
  name : ByteArray
  uses : List ByteArray
def TG.wt (s : TG) : Nat := s.name.size + (s.uses.length + wtWds s.uses)
/-- A value that is a node, its words in the blocks from lo on and below n. -/
def IsGn (w : World) (lo n : Nat) (v : Value) (s : TG) : Prop :=
  ∃ (aa : Option Addr) (ca : Nat), v = .agg #[.string s.name, .slice aa s.uses.length ca] ∧ (s.name.size ≤ maxLen ∧ s.uses.length ≤ maxLen ∧ ∀ x ∈ s.uses, x.size ≤ maxLen) ∧ IsWds w lo n aa s.uses
theorem IsGn.same {w w' : World} {lo n lo' n' : Nat} (hs : Same lo n w w') (hl : lo' ≤ lo) (hn : n ≤ n') (v : Value) (s : TG) (h : IsGn w lo n v s) : IsGn w' lo' n' v s := by
  obtain ⟨aa, ca, hv, hz, ha⟩ := h
  exact ⟨aa, ca, hv, hz, ha.same hs hl hn⟩
theorem IsGn.kept {w w' : World} {lo n m : Nat} {v : Value} {s : TG} (h : IsGn w lo n v s) (hb : Below n w w') (hnm : n ≤ m) : IsGn w' lo m v s := IsGn.same (Below.same hb) (Nat.le_refl _) hnm v s h
theorem IsGn.form {w : World} {lo n : Nat} {c0 c1 : Value} {s : TG} (h : IsGn w lo n (.agg #[c0, c1]) s) : ∃ (xs : ByteArray) (xa : Option Addr) (xl xc : Nat), c0 = .string xs ∧ c1 = .slice xa xl xc := by
  obtain ⟨aa, ca, hv, hz, ha⟩ := h
  simp only [Value.agg.injEq, Array.mk.injEq, List.cons.injEq] at hv
  exact ⟨_, _, _, _, hv.1, hv.2.1⟩
end Go.Proofs.Ytgdeehldpmfpgaa
