/- Values in memory. No conditions. -/
import Derived.Test.YtjnahhalgckggaaFb
namespace Go.Proofs.Ytjnahhalgckggaa
open Go.RowKit Go.PlainAid

/-- A value. -/
structure MV where
  kind : Int
  num : Int
  row : List Int
def MV.wt (s : MV) : Nat := s.row.length
/-- A value of the memory that is a value, its row in the blocks from lo on and below n. -/
def IsMv (w : World) (lo n : Nat) (v : Value) (s : MV) : Prop :=
  ∃ (aa : Option Addr) (ca : Nat), v = .agg #[.int .i64 s.kind, .int .i64 s.num, .slice aa s.row.length ca] ∧ s.row.length ≤ maxLen ∧ IsInts w lo n aa s.row
theorem IsMv.same {w w' : World} {lo n lo' n' : Nat} (hs : Same lo n w w') (hl : lo' ≤ lo) (hn : n ≤ n') (v : Value) (s : MV) (h : IsMv w lo n v s) : IsMv w' lo' n' v s := by
  obtain ⟨aa, ca, hv, hz, ha⟩ := h
  exact ⟨aa, ca, hv, hz, ha.same hs hl hn⟩
theorem IsMv.kept {w w' : World} {lo n m : Nat} {v : Value} {s : MV} (h : IsMv w lo n v s) (hb : Below n w w') (hnm : n ≤ m) : IsMv w' lo m v s := IsMv.same (Below.same hb) (Nat.le_refl _) hnm v s h
theorem IsMv.form {w : World} {lo n : Nat} {c0 c1 c2 : Value} {s : MV} (h : IsMv w lo n (.agg #[c0, c1, c2]) s) : ∃ (xk xn : Int) (xa : Option Addr) (xl xc : Nat), c0 = .int .i64 xk ∧ c1 = .int .i64 xn ∧ c2 = .slice xa xl xc := by
  obtain ⟨aa, ca, hv, hz, ha⟩ := h
  simp only [Value.agg.injEq, Array.mk.injEq, List.cons.injEq] at hv
  exact ⟨_, _, _, _, _, hv.1, hv.2.1, hv.2.2.1⟩
end Go.Proofs.Ytjnahhalgckggaa
