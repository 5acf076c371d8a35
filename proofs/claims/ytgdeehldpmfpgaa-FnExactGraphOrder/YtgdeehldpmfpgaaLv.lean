/- A call that starts no goroutine meets what a row asks of one that may. No conditions. -/
import Derived.Conc.Holds
import Derived.Handed
namespace Go.Proofs.Ytgdeehldpmfpgaa

theorem leaving_of_alone {P : Program} {last : Machine} {w : World} {t : Trace} (h : aloneAtReturn P last w t) : leavingAtReturn P last w t := by
  obtain ⟨⟨h1, h2⟩, h3, h4⟩ := h
  refine ⟨h3, ⟨fun g hg => ?_, h2⟩, h4⟩
  unfold Machine.othersDone at h1
  rw [List.all_eq_true] at h1
  have h5 := h1 g hg
  refine ⟨0, ?_⟩
  show g.status = .finished
  cases e : g.status <;> rw [e] at h5 <;> first | rfl | cases h5
theorem leaving_of_handed {a : Assume} {C : Checked} {os : Os} {f : FuncId} {r : Reach} {Pre : World → Array Value → Prop} {Post : World → Array Value → Value → World → Prop}
    (h : ReturnsInHanded a C os f r Pre Post) : ReturnsInLeavingWide a C os f r Pre Post :=
  fun enter => ReturnsInOpen.mono (fun _ _ _ x => leaving_of_alone x) (fun _ x => x) (h enter)
end Go.Proofs.Ytgdeehldpmfpgaa
