/- The walks of graphHeap's Len, Less, Swap. Conditions: the heap's row is in a block of its own; the places are within it. -/
import Derived.Test.YtgdeehldpmfpgaaQo
import Derived.WalkSmall
import Derived.Deep.QuietTactic
import Derived.BigQuiet
import Derived.RegionTactic
import Derived.ChangeAlike
import Derived.BigRegion
namespace Go.Proofs.Ytgdeehldpmfpgaa
open Go.RowKit Go.PlainAid

/-- A row of words in a block of its own. -/
def HRow (w : World) (base : Nat) (so : Option Addr) (cp : Nat) (xs : List ByteArray) : Prop := w.ownsRow base 9 1 (.slice so xs.length cp) xs.length (xs.map Value.string)
theorem HRow.cell {w : World} {base : Nat} {so : Option Addr} {cp : Nat} {xs : List ByteArray} (h : HRow w base so cp xs) {i : Nat} (hi : i < xs.length) : ∃ g, so = some ⟨g, 0, none⟩ ∧ base ≤ g ∧ g < w.heap.size ∧ (∀ j, j < xs.length → w.cell? ⟨g, j, none⟩ = some (.string (atF xs j))) ∧ ∀ j, w.frozen? ⟨g, j, none⟩ = false := by
  have hh := h
  rcases h.2 with ⟨h1, h2⟩ | ⟨g, cap, cur, h1, hb, hg, _⟩
  · rw [h2] at hi; omega
  · simp only [Value.slice.injEq] at h1
    obtain ⟨rfl, _, rfl⟩ := h1
    refine ⟨g, rfl, hb, (hh.lt g rfl).2, fun j hj => ?_, fun j => ?_⟩
    · have := World.ownsRow.cells hh (g := g) rfl j (.string (atF xs j)) (by simp [atF, hj])
      rw [Addr.add_lit, Nat.zero_add] at this
      exact this
    · simp [World.frozen?, hg]

set_option maxRecDepth 100000 in
set_option maxHeartbeats 1000000 in
theorem hless_any (base : Nat) (so : Option Addr) (cp : Nat) (xs : List ByteArray) (i j : Nat) (w : World) (h : HRow w base so cp xs) (hi : i < xs.length) (hj : j < xs.length) :
    Calls Try.prog 113 #[.slice so xs.length cp, .int .i64 i, .int .i64 j] w fun r w' => r = .returned (.bool (Op.bytesLess (atF xs i).toList (atF xs j).toList)) ∧ Below w.heap.size w w' := by
  obtain ⟨g, rfl, hb, hg, hc, hf⟩ := h.cell hi
  have c1 := hc i hi
  have c2 := hc j hj
  clear hc hf h
  go_enter Try.func113, Try.ntmps113
  go_wp2
  go_quiet (fail)
  go_wp2
  go_ret
  exact ⟨rfl, below_drewN (Below.refl _ _) _⟩

theorem gr_below {w w' : World} (hb : Below w.heap.size w w') (row : Option Nat) : w.grownBy w' row := ⟨hb.os, hb.tape, hb.output, hb.size, fun k hk _ => hb.block k hk⟩
theorem gr_trans {a b c : World} {row : Option Nat} (h : a.grownBy b row) (k : b.grownBy c row) : a.grownBy c row :=
  ⟨k.os.trans h.os, k.tape.trans h.tape, k.output.trans h.output, Nat.le_trans h.size k.size, fun i hi hr => (k.block i (Nat.lt_of_lt_of_le hi h.size) hr).trans (h.block i hi hr)⟩
/-- What an exchange leaves. -/
def Swd (w : World) (base : Nat) (so : Option Addr) (cp : Nat) (xs : List ByteArray) (w' : World) : Prop := HRow w' base so cp xs ∧ ∃ g, so = some ⟨g, 0, none⟩ ∧ w.grownBy w' (some g)
set_option maxRecDepth 100000 in
set_option maxHeartbeats 1000000 in
theorem hswap_any (base : Nat) (so : Option Addr) (cp : Nat) (xs : List ByteArray) (i j : Nat) (w : World) (h : HRow w base so cp xs) (hi : i < xs.length) (hj : j < xs.length) :
    Calls Try.prog 114 #[.slice so xs.length cp, .int .i64 i, .int .i64 j] w fun r w' => r = .returned (.tuple #[]) ∧ Swd w base so cp (swL xs i j) w' := by
  obtain ⟨g, rfl, hb, hg, hc, hf⟩ := h.cell hi
  have c1 := hc i hi
  have c2 := hc j hj
  have f1 := hf i
  have f2 := hf j
  have HH := hide h
  have h1 := World.ownsRow.stored h i (.string (atF xs j))
  have h2 := World.ownsRow.stored h1.1 j (.string (atF xs i))
  have f3 : (w.setCell ⟨g, i, none⟩ (.string (atF xs j))).frozen? ⟨g, j, none⟩ = false := World.ownsRow.frozenAt h1.1 j
  have c3 : (w.setCell ⟨g, i, none⟩ (.string (atF xs j))).cell? ⟨g, j, none⟩ = some (.string (atF xs j)) := by
    have := World.ownsRow.cells h1.1 (g := g) rfl j (.string (atF xs j)) (by
      rw [List.getElem?_set]
      by_cases e : i = j
      · subst e; simp [hi]
      · simp [e, hj, atF])
    rw [Addr.add_lit, Nat.zero_add] at this
    exact this
  have H1 := hide h1
  have H2 := hide h2
  clear hc hf h h1 h2
  go_enter Try.func114, Try.ntmps114
  go_wp2
  go_region
  all_goals
    go_wp2
    go_end0
    refine ⟨rfl, ?_⟩
    have h1 := unhide H1
    have h2 := unhide H2
    refine ⟨?_, g, rfl, gr_trans (gr_trans h1.2 h2.2) (gr_below ((Below.refl _ _).drew) _)⟩
    have e : ((xs.map Value.string).set i (.string (atF xs j))).set j (.string (atF xs i)) = (swL xs i j).map Value.string := by simp [swL, List.map_set]
    rw [e] at h2
    unfold HRow
    rw [swL_len]
    exact own_keptG h2.1 (Below.refl _ _).drew
end Go.Proofs.Ytgdeehldpmfpgaa
