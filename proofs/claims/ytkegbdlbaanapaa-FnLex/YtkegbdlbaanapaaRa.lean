/- What a law's walk is told of a slice of bytes that came in (the text of ..Ld, which can't stand beside the texts of LexCut: two lemmas of one name). No conditions. -/
import Derived.Test.YtkegbdlbaanapaaDu
import Derived.OpenShut
namespace Go.Proofs.Ytkegbdlbaanapaa
open Go.RowKit Go.PlainAid

/-- What the walk is told of a slice of integers that came in. -/
def IsRow (k : IntKind) (w : World) (a : Option Addr) (len cap : Nat) (zs : List Int) : Prop :=
  (a = none ∧ len = 0 ∧ cap = 0 ∧ zs = []) ∨
  ∃ x, a = some x ∧ len ≤ cap ∧ cap ≤ maxLen ∧ zs.length = cap ∧ (∀ i, i < zs.length → w.cell? (x.add i) = some (.int k (zs.getD i 0))) ∧ ∀ n ∈ zs, (Lit.int k n).wf = true
theorem wf_u8 {n : Int} (h : (Lit.int .u8 n).wf = true) : 0 ≤ n ∧ n ≤ 255 := bounds_u8 h
theorem IsRow.src {w : World} {a : Option Addr} {len cap : Nat} {zs : List Int} (h : IsRow .u8 w a len cap zs) : len ≤ cap ∧ cap ≤ maxLen ∧ Src w w.heap.size a len := by
  rcases h with ⟨rfl, rfl, rfl, rfl⟩ | ⟨x, rfl, h1, h2, h3, h4, h5⟩
  · exact ⟨Nat.le_refl _, Nat.zero_le _, .inl rfl⟩
  · refine ⟨h1, h2, ?_⟩
    by_cases hl : len = 0
    · exact .inl hl
    · right
      obtain ⟨b, off, spot⟩ := x
      have hc := h4 0 (by omega)
      have hspot : spot = none := by simpa [Addr.add] using World.cell?_spot hc
      subst hspot
      refine ⟨b, off, fun j => zs.getD j 0, rfl, ?_, fun j => ?_, fun j hj => ?_⟩
      · have := block_lt_of_cell hc
        simpa [Addr.add] using this
      · by_cases hj : j < zs.length
        · have e : zs.getD j 0 = zs[j] := by simp [List.getD, hj]
          show 0 ≤ zs.getD j 0 ∧ zs.getD j 0 ≤ 255
          rw [e]
          exact wf_u8 (h5 _ (List.getElem_mem hj))
        · have e : zs.getD j 0 = 0 := by simp [List.getD, List.getElem?_eq_none (Nat.le_of_not_lt hj)]
          show 0 ≤ zs.getD j 0 ∧ zs.getD j 0 ≤ 255
          rw [e]
          omega
      · have := h4 j (by omega)
        by_cases e : j = 0
        · subst e; simpa [Addr.add] using this
        · simpa [Addr.add, e] using this
theorem bnext {w w1 w2 : World} (h : Below w.heap.size w w1) (k : Below w1.heap.size w1 w2) : Below w.heap.size w w2 := h.trans (k.mono h.size)
theorem Src.after {w w1 : World} {a : Option Addr} {len : Nat} (h : Src w w.heap.size a len) (k : Below w.heap.size w w1) : Src w1 w1.heap.size a len := h.kept k k.size
end Go.Proofs.Ytkegbdlbaanapaa
