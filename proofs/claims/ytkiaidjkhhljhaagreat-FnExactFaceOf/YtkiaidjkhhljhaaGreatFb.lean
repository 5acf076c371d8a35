/- Rows of numbers in memory, and the walks of szIntS, toIntS, eqIntS. Conditions: the rows can be read. -/
import Derived.Test.YtkiaidjkhhljhaaGreatFa
namespace Go.Proofs.YtkiaidjkhhljhaaGreat
open Go.RowKit Go.PlainAid

/-- A row of numbers that can be read, in a block from lo on and below n. -/
def IsInts (w : World) (lo n : Nat) (a : Option Addr) (zs : List Int) : Prop :=
  zs = [] ∨ ∃ b off : Nat, a = some ⟨b, off, none⟩ ∧ lo ≤ b ∧ b < n ∧ ∀ j (hj : j < zs.length), w.cell? ⟨b, off + j, none⟩ = some (.int .i64 zs[j])
theorem IsInts.same {w w' : World} {lo n lo' n' : Nat} {a : Option Addr} {zs : List Int} (h : IsInts w lo n a zs) (hs : Same lo n w w') (hl : lo' ≤ lo) (hn : n ≤ n') : IsInts w' lo' n' a zs := by
  rcases h with h | ⟨b, off, h1, h0, h2, h3⟩
  · exact .inl h
  · exact .inr ⟨b, off, h1, by omega, by omega, fun j hj => (World.cell?_of_block (w := w) (hs b h0 h2)).trans (h3 j hj)⟩
theorem IsInts.kept {w w' : World} {lo n m : Nat} {a : Option Addr} {zs : List Int} (h : IsInts w lo n a zs) (hb : Below n w w') (hnm : n ≤ m) : IsInts w' lo m a zs := h.same (Below.same hb) (Nat.le_refl _) hnm

set_option maxHeartbeats 400000 in
theorem intinfo : (Tryz.prog.info? 3).map (fun i => (i.zero, i.size, i.bytes)) = some (some (.int .i64 0), 1, 8) := by kernel_rfl
theorem make_ints (n : Nat) (hn : n ≤ 1048576) : ∃ M : Array Value, M.size = n ∧ ∀ W : World, (Instr.makeSlice 63 (.int .i64 (n : Int)) (.int .i64 (n : Int))).run Tryz.prog W = .ok (.slice (some ⟨W.heap.size, 0, none⟩) n n) (W.alloc (.cells M 3)) := by
  obtain ⟨i0, hi, hz0, hz1, hz2⟩ := info_parts intinfo
  refine ⟨madeCells (Value.int .i64 0).cells (((n : Nat) : Int).toNat * i0.size), by rw [size_madeCells, hz1]; simp, fun W => ?_⟩
  have h := run_make (P := Tryz.prog) W 63 3 i0 (.int .i64 0) Tryz.underlying63 hi hz0 .i64 .i64 (n : Int) (n : Int) (by omega) (by omega) (by rw [hz2]; omega) (by omega)
  simpa using h

set_option maxHeartbeats 1000000 in
set_option maxHeartbeats 1000000 in
theorem eqIntS_any (lo lo' : Nat) (a a2 : Option Addr) (cap cap2 : Nat) (zs : List Int) (w : World) (hl : zs.length ≤ maxLen) (h : IsInts w lo w.heap.size a zs) (h2 : IsInts w lo' w.heap.size a2 zs) :
    Calls Tryz.prog 90 #[.slice a zs.length cap, .slice a2 zs.length cap2] w fun e w' => e = .returned (.bool true) ∧ Below w.heap.size w w' := by
  unfold maxLen at hl
  have hq : ((zs.length : Int) != (zs.length : Int)) = false := by simp
  have HW := hide h
  have HV := hide h2
  clear h h2
  go_enter Tryz.func90, Tryz.ntmps90
  go_wp2
  go_loopw [5] (fun i wr => ∃ k n : Nat, k ≤ zs.length ∧ i = .int .i64 k ∧ wr = w.drewN n) (fun i _ => zs.length - (intOf i).toNat)
  case atStart => exact ⟨0, 0, Nat.zero_le _, rfl, rfl⟩
  case round =>
    obtain ⟨k, n, hk, rfl, rfl⟩ := hrel
    by_cases hp : k < zs.length
    · rcases unhide HW with h | ⟨b, off, rfl, hbl, hb, hc⟩
      · rw [h] at hp; simp at hp
      rcases unhide HV with h | ⟨b2, off2, rfl, hbl2, hb2, hc2⟩
      · rw [h] at hp; simp at hp
      have hck := hc k hp
      have hck2 := hc2 k hp
      obtain ⟨x, hx⟩ : ∃ x, zs[k]'hp = x := ⟨_, rfl⟩
      rw [hx] at hck hck2
      have he : (x != x) = false := by simp
      clear hc hc2 hx
      go_wp2
      go_quiet (fail)
      go_wp2
      go_roundw
      case rel => exact ⟨k + 1, _, by omega, by go_num, rfl⟩
      case measure => simp [intOf]; omega
    · go_wp2
      go_ret
      exact ⟨rfl, below_drewN (Below.refl _ _) _⟩
end Go.Proofs.YtkiaidjkhhljhaaGreat
