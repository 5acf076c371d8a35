/- The line of nodes that wait: its map and its heap; the walks of free and next. Conditions: the line lies there. -/
import Derived.Test.YtgdeehldpmfpgaaQx
import Derived.Maps.OwnSet
import Derived.Carry
namespace Go.Proofs.Ytgdeehldpmfpgaa
open Go.RowKit Go.PlainAid

/-- A map of numbers by words: what it tells of each. -/
def MM (w : World) (M n : Nat) (F : List UInt8 → Int) : Prop := ∃ D : DataW Value, w.ownsMap Try.prog 9 (plainElem Try.prog 3) M n D ∧ ∀ l, D.atKey (.string l) (.lit (.int .i64 0)) = .lit (.int .i64 (F l))
theorem MM.made (w : World) : MM (w.alloc (.map #[] 0)) w.heap.size 0 (fun _ => 0) := ⟨.map [], World.ownsMap_made w Try.prog 9 (plainElem Try.prog 3), fun _ => rfl⟩
theorem MM.block {w w' : World} {M n : Nat} {F : List UInt8 → Int} (h : MM w M n F) (hb : w'.heap[M]? = w.heap[M]?) : MM w' M n F := by
  obtain ⟨D, ⟨es, clock, h1, h2⟩, h3⟩ := h
  exact ⟨D, ⟨es, clock, hb.trans h1, h2⟩, h3⟩
theorem MM.lt {w : World} {M n : Nat} {F : List UInt8 → Int} (h : MM w M n F) : M < w.heap.size := by
  obtain ⟨D, ⟨es, clock, h1, h2⟩, h3⟩ := h
  rcases Nat.lt_or_ge M w.heap.size with g | g
  · exact g
  · rw [Array.getElem?_eq_none g] at h1; cases h1
theorem keyS (s : ByteArray) (h : s.size ≤ maxLen) : keyOf Try.prog 9 (.string s) = some (.string s.toList) := by rw [ByteArray.toList_eq]; exact WideMaps.keyOf_string_mk Try.underlying9 h
theorem MM.look {w : World} {M n : Nat} {F : List UInt8 → Int} (h : MM w M n F) (s : ByteArray) (hs : s.size ≤ maxLen) : (Instr.lookup 49 (.map (some M)) (.string s) false).run Try.prog w = .ok (.int .i64 (F s.toList)) w := by
  obtain ⟨D, hown, hD⟩ := h
  obtain ⟨c, hrun, hat, _⟩ := hown.lookup_int (Maps.string_keyed Try.underlying9) Try.underlying49 Try.underlying3 (Try.zeroValue3 w) (keyS s hs)
  rw [hD] at hat
  simp only [DataW.lit.injEq, Lit.int.injEq, true_and] at hat
  rw [hrun, hat]
theorem MM.put {w : World} {M n : Nat} {F : List UInt8 → Int} (h : MM w M n F) (hn : n < 1000) (s : ByteArray) (hs : s.size ≤ maxLen) (c : Int) (hc : (Lit.int .i64 c).wf = true) : ∃ w', (Instr.mapUpdate 49 (.map (some M)) (.string s) (.int .i64 c)).run Try.prog w = .ok () w' ∧ MM w' M (n + 1) (fun l => if l = s.toList then c else F l) ∧ w.grownBy w' (some M) ∧ w'.heap.size = w.heap.size := by
  obtain ⟨D, hown, hD⟩ := h
  obtain ⟨w', h1, h2, h3⟩ := hown.store (Maps.string_keyed Try.underlying9) Try.underlying49 (by unfold maxLen; omega) (key := .string s) (val := .int .i64 c) (d := .lit (.int .i64 c)) (ps := []) (keyS s hs) (plainElem_int Try.underlying3 hc)
  refine ⟨w', h1, ⟨_, h2, fun l => ?_⟩, h3.grown, ?_⟩
  · by_cases e : l = s.toList
    · subst e
      rw [Maps.atKey_put_same hown.isMap (show WideAt.IsKeyLit (.string s.toList) from trivial)]
      simp
    · have hne : (Lit.string l) ≠ .string s.toList := fun c => e (by injection c)
      rw [Maps.atKey_put_other hne, hD l]
      simp [e]
  · obtain ⟨_, _, _, _, _, rfl⟩ := h3
    simp [ChangeMaps.setBlock]
/-- A line of nodes: the map in a block ahead, the heap's row in a block of its own behind. -/
structure Line (w : World) (base L M n : Nat) (F : List UInt8 → Int) (so : Option Addr) (cp : Nat) (xs : List ByteArray) : Prop where
  lL : L < base
  lM : M < base
  ne : M ≠ L
  bw : base ≤ w.heap.size
  c0 : w.cell? ⟨L, 0, none⟩ = some (.map (some M))
  mm : MM w M n F
  c1 : w.cell? ⟨L, 1, none⟩ = some (.slice so xs.length cp)
  fz : w.frozen? ⟨L, 1, none⟩ = false
  row : HRow w base so cp xs
  hp : HeapF (atF xs) xs.length
theorem Line.push {w w' : World} {base L M n : Nat} {F : List UInt8 → Int} {so : Option Addr} {cp : Nat} {xs zs : List ByteArray} (h : Line w base L M n F so cp xs) (hh : HeapF (atF zs) zs.length) (hP : Pushed w base L 1 so cp xs.length zs w') : ∃ so' cp', Line w' base L M n F so' cp' zs ∧ (so' = so ∨ ∃ H, so' = some ⟨H, 0, none⟩ ∧ w.heap.size ≤ H) ∧ Kept w w' L 1 (Value.slice so xs.length cp).ownBlock := by
  obtain ⟨so', cp', h1, h2, h3, h4⟩ := hP
  have hM : some M ≠ (Value.slice so xs.length cp).ownBlock := fun e => by have := (h.row.lt M e.symm).1; have := h.lM; omega
  exact ⟨so', cp', ⟨h.lL, h.lM, h.ne, Nat.le_trans h.bw h4.size, (h4.cell 0 (by omega)).trans h.c0, h.mm.block (h4.block M (Nat.lt_of_lt_of_le h.lM h.bw) h.ne hM), h2, (h4.frozen 1).trans h.fz, h1, hh⟩, h3, h4⟩

set_option maxRecDepth 100000 in
set_option maxHeartbeats 2000000 in
theorem free_any (base L M n : Nat) (F : List UInt8 → Int) (so : Option Addr) (cp : Nat) (xs : List ByteArray) (s : ByteArray) (hs : s.size ≤ maxLen) (w : World) (h : Line w base L M n F so cp xs) (hx : xs.length ≤ 7) :
    Calls Try.prog 53 #[.pointer (some ⟨L, 0, none⟩), .string s] w fun r w' => r = .returned (.tuple #[]) ∧ ((F s.toList = 0 ∧ ∃ zs : List ByteArray, zs.Perm (xs ++ [s]) ∧ HeapF (atF zs) zs.length ∧ Pushed w base L 1 so cp xs.length zs w') ∨ (F s.toList ≠ 0 ∧ w' = w)) := by
  have hlk := h.mm.look s hs
  have c0 := h.c0
  have HPU := hide (hpush_any base L 1 so cp xs s xs.length w h.c1 h.fz h.lL (Nat.lt_of_lt_of_le h.lL h.bw) h.bw h.row rfl hx h.hp)
  obtain ⟨c, hc⟩ : ∃ c, F s.toList = c := ⟨_, rfl⟩
  rw [hc] at hlk ⊢
  clear h hc
  by_cases h0 : c = 0
  · subst h0
    go_enter Try.func53, Try.ntmps53
    go_wp2_with fail
    refine (unhide HPU).mono ?_
    rintro r w2 ⟨rfl, hz⟩
    have HZ := hide hz
    clear hz HPU
    go_wp2
    go_end0
    exact ⟨rfl, .inl ⟨by first | rfl | trivial, unhide HZ⟩⟩
  · have hb : (c == 0) = false := by simpa using h0
    have H0 := hide h0
    go_enter Try.func53, Try.ntmps53
    go_wp2
    go_end0
    exact ⟨rfl, .inr ⟨unhide H0, rfl⟩⟩
end Go.Proofs.Ytgdeehldpmfpgaa
