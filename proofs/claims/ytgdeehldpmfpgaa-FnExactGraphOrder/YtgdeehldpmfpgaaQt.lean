/- append of one word to a heap's row; the walks of graphHeap's Push and Pop. Conditions: the heap's row is in a block of its own. -/
import Derived.Test.YtgdeehldpmfpgaaQs
namespace Go.Proofs.Ytgdeehldpmfpgaa
open Go.RowKit Go.PlainAid

/-- append of one word: in the same block, or in a new one. -/
theorem run_app_row (X : World) (base : Nat) (so : Option Addr) (cp : Nat) (xs : List ByteArray) (s : ByteArray) (D c : Nat) (ty : TypeId) (hty : Try.prog.underlying ty = some (.slice 9)) (h : HRow X base so cp xs) (hD : X.cell? ⟨D, 0, none⟩ = some (.string s)) (hl : xs.length ≤ 8) (hb : base ≤ X.heap.size) :
    ∃ (so' : Option Addr) (cp' : Nat) (X' : World), (Builtin.append_ #[ty, ty] ty #[.slice so xs.length cp, .slice (some ⟨D, 0, none⟩) 1 c]).run Try.prog X = .ok (.slice so' (xs.length + 1) cp') X' ∧ HRow X' base so' cp' (xs ++ [s]) ∧ (so' = so ∨ so' = some ⟨X.heap.size, 0, none⟩) ∧ X.grownBy X' (Value.slice so xs.length cp).ownBlock := by
  obtain ⟨i0, hi, hz0, hz1, hz2⟩ := info_parts wsinfo
  have hnews : ∀ j u, [Value.string s][j]? = some u → X.cell? ((⟨D, 0, none⟩ : Addr).add j) = some u := fun j u hu => by
    cases j with
    | zero => rw [Addr.add_lit]; simp at hu; subst hu; exact hD
    | succ j => simp at hu
  obtain ⟨v', X', hr, hown, hg, _⟩ := run_append_own (P := Try.prog) X base ty ty 9 i0 (.string ⟨#[]⟩) 1 16 hty hi hz0 hz1 hz2 rfl (by decide) (.slice so xs.length cp) xs.length (xs.map Value.string) h ⟨D, 0, none⟩ 1 c [.string s] rfl hnews (by simp [Value.oneCell']) (by unfold maxLen; omega) (by omega) hb
  obtain ⟨so', cp', rfl⟩ := own_sliceG hown
  have hlen : (xs ++ [s]).length = xs.length + 1 := by simp
  refine ⟨so', cp', X', hr, ?_, ?_, hg⟩
  · unfold HRow
    rw [hlen, List.map_append]
    exact hown
  · rcases h.2 with ⟨h1, h2⟩ | ⟨g, cap, cur, h1, hbg, hgc, hnc, hcm, hcs, htake⟩
    · simp only [Value.slice.injEq] at h1
      obtain ⟨rfl, _, rfl⟩ := h1
      rw [h2] at hr
      have hr2 := run_append_nil (P := Try.prog) X ty ty 9 i0 (.string ⟨#[]⟩) hty hi hz0 ⟨D, 0, none⟩ 1 c [.string s] (by rw [hz1]; rfl) hnews (by omega) (by omega) (by rw [hz2]; omega)
      rw [hr2] at hr
      simp only [Result.ok.injEq, Value.slice.injEq] at hr
      exact .inr hr.1.1.symm
    · simp only [Value.slice.injEq] at h1
      obtain ⟨rfl, _, rfl⟩ := h1
      by_cases hroom : xs.length + 1 ≤ cp
      · have hr2 := run_append_room (P := Try.prog) X ty ty 9 i0 hty hi g xs.length cp cur hgc ⟨D, 0, none⟩ 1 c [.string s] (by rw [hz1]; rfl) hnews (by simp [Value.oneCell']) hroom (by rw [hz1]; simp; omega)
        rw [hr2] at hr
        simp only [Result.ok.injEq, Value.slice.injEq] at hr
        exact .inl hr.1.1.symm
      · have hr2 := run_append_grow (P := Try.prog) X ty ty 9 i0 (.string ⟨#[]⟩) hty hi hz0 ⟨g, 0, none⟩ xs.length cp (xs.map Value.string) (by rw [hz1]; simp) (World.ownsRow.cells h (g := g) rfl) ⟨D, 0, none⟩ 1 c [.string s] (by rw [hz1]; rfl) hnews (by omega) (by omega) (growslice_fits (by omega) (by rw [hz2]; omega))
        rw [hr2] at hr
        simp only [Result.ok.injEq, Value.slice.injEq] at hr
        exact .inr hr.1.1.symm
end Go.Proofs.Ytgdeehldpmfpgaa
