/- The walk of graphHeap's Pop. Conditions: the heap's row is in a block of its own, and not empty. -/
import Derived.Test.YtgdeehldpmfpgaaQt
namespace Go.Proofs.Ytgdeehldpmfpgaa
open Go.RowKit Go.PlainAid

set_option maxRecDepth 100000 in
set_option maxHeartbeats 2000000 in
theorem hpopm_any (base L o g cp : Nat) (ys : List ByteArray) (s : ByteArray) (w : World) (hc : w.cell? ⟨L, o, none⟩ = some (.slice (some ⟨g, 0, none⟩) (ys.length + 1) cp)) (hf : w.frozen? ⟨L, o, none⟩ = false) (hL : L < base) (h : HRow w base (some ⟨g, 0, none⟩) cp (ys ++ [s])) (hx : ys.length ≤ 7) :
    Calls Try.prog 115 #[.pointer (some ⟨L, o, none⟩)] w fun r w' => r = .returned (.iface 9 (.string s)) ∧ w' = w.setCell ⟨L, o, none⟩ (.slice (some ⟨g, 0, none⟩) ys.length cp) ∧ HRow w' base (some ⟨g, 0, none⟩) cp ys := by
  have hlen : (ys ++ [s]).length = ys.length + 1 := by simp
  obtain ⟨g', hg', hb, hgs, hcs, _⟩ := h.cell (i := ys.length) (by omega)
  cases hg'
  have hl : w.cell? ⟨g, ys.length, none⟩ = some (.string s) := by
    have := hcs ys.length (by omega)
    simpa [atF] using this
  have hcp : ys.length + 1 ≤ cp := by
    rcases h.2 with ⟨h1, _⟩ | ⟨g2, cap, cur, h1, _, _, hnc, _⟩
    · cases h1
    · simp only [Value.slice.injEq] at h1
      obtain ⟨_, _, rfl⟩ := h1
      omega
  have HR : Hid (HRow (w.setCell ⟨L, o, none⟩ (.slice (some ⟨g, 0, none⟩) ys.length cp)) base (some ⟨g, 0, none⟩) cp ys) := hide (by
    have h2 := h
    unfold HRow at h2
    rw [hlen, List.map_append] at h2
    exact ownsRow_setCell_below (ownsRow_pop (by simp) h2) hL _)
  clear h hcs hlen
  go_enter Try.func115, Try.ntmps115
  go_wp2_with fail
  go_ret
  exact ⟨rfl, rfl, unhide HR⟩
end Go.Proofs.Ytgdeehldpmfpgaa
