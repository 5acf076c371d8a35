/- The walks of next and found. Conditions: the line lies there. -/
import Derived.Test.YtgdeehldpmfpgaaQy
namespace Go.Proofs.Ytgdeehldpmfpgaa
open Go.RowKit Go.PlainAid

theorem Line.pop {w w' : World} {base L M n : Nat} {F : List UInt8 → Int} {so : Option Addr} {cp : Nat} {xs : List ByteArray} (h : Line w base L M n F so cp xs) (hP : Popped w base L 1 so cp xs w') : ∃ ys : List ByteArray, (ys ++ [atF xs 0]).Perm xs ∧ Line w' base L M n F so cp ys ∧ Kept w w' L 1 (Value.slice so xs.length cp).ownBlock := by
  obtain ⟨ys, g, Y, h1, h2, h3, rfl, rfl, h4, h5⟩ := hP
  have hown : (Value.slice (some ⟨g, 0, none⟩) xs.length cp).ownBlock = some g := rfl
  have hg := (h.row.lt g rfl).1
  have hL : some L ≠ some g := fun e => by have := Option.some.inj e; have := h.lL; omega
  have hM : some M ≠ some g := fun e => by have := Option.some.inj e; have := h.lM; omega
  have hLw := Nat.lt_of_lt_of_le h.lL h.bw
  have k : Kept w Y L 1 (some g) := Kept.of_grown h5 hLw hL
  have k2 := k.set (.slice (some ⟨g, 0, none⟩) ys.length cp)
  have c1 : Y.cell? ⟨L, 1, none⟩ = some (.slice (some ⟨g, 0, none⟩) xs.length cp) := (World.cell?_of_block (w := w) (a := ⟨L, 1, none⟩) (h5.block L hLw hL)).trans h.c1
  refine ⟨ys, h2, ⟨h.lL, h.lM, h.ne, Nat.le_trans h.bw k2.size, (k2.cell 0 (by omega)).trans h.c0, h.mm.block (k2.block M (Nat.lt_of_lt_of_le h.lM h.bw) h.ne hM), cell_same _ _ _ _ (by rw [c1]; rfl), (k2.frozen 1).trans h.fz, h4, h3⟩, k2⟩

set_option maxRecDepth 100000 in
set_option maxHeartbeats 2000000 in
theorem next_any (base L M n : Nat) (F : List UInt8 → Int) (so : Option Addr) (cp : Nat) (xs : List ByteArray) (w : World) (h : Line w base L M n F so cp xs) (h0 : 0 < xs.length) (hx : xs.length ≤ 8) :
    Calls Try.prog 34 #[.pointer (some ⟨L, 0, none⟩)] w fun r w' => r = .returned (.string (atF xs 0)) ∧ ∃ ys : List ByteArray, (ys ++ [atF xs 0]).Perm xs ∧ Line w' base L M n F so cp ys ∧ Kept w w' L 1 (Value.slice so xs.length cp).ownBlock := by
  obtain ⟨m, hm⟩ : ∃ m, xs.length = m + 1 := ⟨xs.length - 1, by omega⟩
  have HPO := hide (hpop_any base L 1 so cp xs m w (by rw [← hm]; exact h.c1) h.fz h.lL h.row hm (by omega) h.hp)
  have HL := hide (fun w' (hP : Popped w base L 1 so cp xs w') => h.pop hP)
  have hta : ∀ W : World, (Instr.typeAssert (.iface 9 (.string (atF xs 0))) 20 9 false).run Try.prog W = .ok (.string (atF xs 0)) W := fun _ => by kernel_rfl
  clear h hm
  go_enter Try.func34, Try.ntmps34
  go_wp2_with fail
  refine (unhide HPO).mono ?_
  rintro r w2 ⟨rfl, hz⟩
  have HZ := hide (unhide HL w2 hz)
  clear hz HPO HL
  go_wp2
  go_ret
  exact ⟨rfl, unhide HZ⟩

/-- What is kept where a line turns: all blocks but the line's, its map's and the heap's own. -/
structure LK (w w' : World) (L M : Nat) (own : Option Nat) : Prop where
  os : w'.os = w.os
  tape : w'.tape = w.tape
  output : w'.output = w.output
  size : w.heap.size ≤ w'.heap.size
  block : ∀ b, b < w.heap.size → b ≠ L → b ≠ M → some b ≠ own → w'.heap[b]? = w.heap[b]?
theorem Kept.lk {w w' : World} {L o M : Nat} {own : Option Nat} (h : Kept w w' L o own) : LK w w' L M own := ⟨h.os, h.tape, h.output, h.size, fun b hb hL _ hn => h.block b hb hL hn⟩
theorem LK.refl (w : World) (L M : Nat) (own : Option Nat) : LK w w L M own := ⟨rfl, rfl, rfl, Nat.le_refl _, fun _ _ _ _ _ => rfl⟩
theorem LK.map {w w' : World} {L M : Nat} {own : Option Nat} (h : w.grownBy w' (some M)) : LK w w' L M own := ⟨h.os, h.tape, h.output, h.size, fun b hb _ hM _ => h.block b hb (fun e => hM (Option.some.inj e))⟩
theorem LK.trans {w w' w'' : World} {L M : Nat} {own own' : Option Nat} (h : LK w w' L M own) (k : LK w' w'' L M own') (hown : own' = own ∨ ∃ H, own' = some H ∧ w.heap.size ≤ H) : LK w w'' L M own := by
  refine ⟨k.os.trans h.os, k.tape.trans h.tape, k.output.trans h.output, Nat.le_trans h.size k.size, fun b hb hL hM hn => (k.block b (Nat.lt_of_lt_of_le hb h.size) hL hM ?_).trans (h.block b hb hL hM hn)⟩
  rcases hown with e | ⟨H, e, hH⟩
  · rw [e]; exact hn
  · rw [e]; intro c; have := Option.some.inj c; omega
/-- What a step with a line leaves. -/
def Turned (w w' : World) (base L M n : Nat) (F : List UInt8 → Int) (so : Option Addr) (cp m : Nat) (zs : List ByteArray) : Prop := ∃ (so' : Option Addr) (cp' : Nat), Line w' base L M n F so' cp' zs ∧ (so' = so ∨ ∃ H, so' = some ⟨H, 0, none⟩ ∧ w.heap.size ≤ H) ∧ LK w w' L M (Value.slice so m cp).ownBlock
def setF (F : List UInt8 → Int) (s : List UInt8) (c : Int) : List UInt8 → Int := fun l => if l = s then c else F l
theorem Line.put {w : World} {base L M n : Nat} {F : List UInt8 → Int} {so : Option Addr} {cp : Nat} {xs : List ByteArray} (h : Line w base L M n F so cp xs) (hn : n < 1000) (s : ByteArray) (hs : s.size ≤ maxLen) (c : Int) (hc : (Lit.int .i64 c).wf = true) : ∃ w', (Instr.mapUpdate 49 (.map (some M)) (.string s) (.int .i64 c)).run Try.prog w = .ok () w' ∧ Line w' base L M (n + 1) (setF F s.toList c) so cp xs ∧ w.grownBy w' (some M) := by
  obtain ⟨w', h1, h2, h3, h4⟩ := h.mm.put hn s hs c hc
  have hLw := Nat.lt_of_lt_of_le h.lL h.bw
  have hLM : some L ≠ some M := fun e => h.ne (Option.some.inj e).symm
  have hb := h3.block L hLw hLM
  refine ⟨w', h1, ⟨h.lL, h.lM, h.ne, by rw [h4]; exact h.bw, (World.cell?_of_block (w := w) (a := ⟨L, 0, none⟩) hb).trans h.c0, h2, (World.cell?_of_block (w := w) (a := ⟨L, 1, none⟩) hb).trans h.c1, (World.frozen?_of_block (w := w) (a := ⟨L, 1, none⟩) hb).trans h.fz, ?_, h.hp⟩, h3⟩
  refine World.ownsRow.kept h.row h3 ?_
  right
  intro e
  have := (h.row.lt M e).1
  have := h.lM
  omega
/-- What free leaves, told by the line. -/
theorem free_line (base L M n : Nat) (F : List UInt8 → Int) (so : Option Addr) (cp : Nat) (xs : List ByteArray) (s : ByteArray) (hs : s.size ≤ maxLen) (w : World) (h : Line w base L M n F so cp xs) (hx : xs.length ≤ 7) :
    Calls Try.prog 53 #[.pointer (some ⟨L, 0, none⟩), .string s] w fun r w' => r = .returned (.tuple #[]) ∧ ∃ zs : List ByteArray, zs.Perm (if F s.toList = 0 then xs ++ [s] else xs) ∧ Turned w w' base L M n F so cp xs.length zs := by
  refine (free_any base L M n F so cp xs s hs w h hx).mono ?_
  rintro r w' ⟨rfl, hz⟩
  refine ⟨rfl, ?_⟩
  rcases hz with ⟨h0, zs, hp, hh, hP⟩ | ⟨h0, rfl⟩
  · obtain ⟨so', cp', k1, k2, k3⟩ := h.push hh hP
    exact ⟨zs, by rw [if_pos h0]; exact hp, so', cp', k1, k2, k3.lk⟩
  · exact ⟨xs, by rw [if_neg h0], so, cp, h, .inl rfl, LK.refl _ _ _ _⟩

set_option maxRecDepth 100000 in
set_option maxHeartbeats 2000000 in
theorem found_any (base L M n : Nat) (F : List UInt8 → Int) (so : Option Addr) (cp : Nat) (xs : List ByteArray) (s : ByteArray) (hs : s.size ≤ maxLen) (w : World) (h : Line w base L M n F so cp xs) (hx : xs.length ≤ 7) (hn : n < 900) (h1 : 1 ≤ F s.toList) (h2 : F s.toList ≤ 8) :
    Calls Try.prog 37 #[.pointer (some ⟨L, 0, none⟩), .string s] w fun r w' => r = .returned (.tuple #[]) ∧ ∃ zs : List ByteArray, zs.Perm (if F s.toList = 1 then xs ++ [s] else xs) ∧ Turned w w' base L M (n + 1) (setF F s.toList (F s.toList - 1)) so cp xs.length zs := by
  have hlk := h.mm.look s hs
  have c0 := h.c0
  obtain ⟨w1, r1, l1, g1⟩ := h.put (by omega) s hs (F s.toList - 1) (by simp [Lit.wf, IntKind.min, IntKind.max, IntKind.signed, IntKind.bits]; omega)
  have HFR := hide (free_line base L M (n + 1) _ so cp xs s hs w1 l1 hx)
  have hsf : setF F s.toList (F s.toList - 1) s.toList = F s.toList - 1 := by simp [setF]
  rw [hsf] at HFR
  have HG : Hid (LK w w1 L M (Value.slice so xs.length cp).ownBlock) := hide (LK.map g1)
  have HSZ := hide g1.size
  obtain ⟨F', hF'⟩ : ∃ F', setF F s.toList (F s.toList - 1) = F' := ⟨_, rfl⟩
  rw [hF'] at HFR ⊢
  obtain ⟨c, hc⟩ : ∃ c, F s.toList = c := ⟨_, rfl⟩
  rw [hc] at hlk r1 HFR h1 h2 ⊢
  obtain ⟨T, hT⟩ : ∃ T, (if c = 1 then xs ++ [s] else xs) = T := ⟨_, rfl⟩
  rw [hT]
  have HT := hide hT
  clear h hsf l1 g1 hF' hc hT
  go_enter Try.func37, Try.ntmps37
  go_wp2_with fail
  refine (unhide HFR).mono ?_
  rintro r w2 ⟨rfl, zs, hp, so', cp', k1, k2, k3⟩
  have HZ : Hid (∃ zs : List ByteArray, zs.Perm T ∧ Turned w w2 base L M (n + 1) F' so cp xs.length zs) := hide (by
    refine ⟨zs, ?_, so', cp', k1, ?_, (unhide HG).trans k3 (.inl rfl)⟩
    · rw [← unhide HT]
      by_cases e : c = 1
      · rw [if_pos e]; rw [if_pos (by omega)] at hp; exact hp
      · rw [if_neg e]; rw [if_neg (by omega)] at hp; exact hp
    · rcases k2 with e | ⟨H, e, hH⟩
      · exact .inl e
      · exact .inr ⟨H, e, Nat.le_trans (unhide HSZ) hH⟩)
  clear hp k1 k2 k3 HFR
  go_wp2
  go_end0
  exact ⟨rfl, unhide HZ⟩
end Go.Proofs.Ytgdeehldpmfpgaa
