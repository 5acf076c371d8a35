/- Rows of numbers in memory, and the walks of szIntS, toIntS, eqIntS. Conditions: the rows can be read. -/
import Derived.Test.YtakcpfmpaopfdaaFa
namespace Go.Proofs.Ytakcpfmpaopfdaa
open Go.RowKit Go.PlainAid

/-- A row of numbers that can be read, in a block from lo on and below n. -/
def IsInts (w : World) (lo n : Nat) (a : Option Addr) (zs : List Int) : Prop :=
  zs = [] ∨ ∃ b off : Nat, a = some ⟨b, off, none⟩ ∧ lo ≤ b ∧ b < n ∧ ∀ j (hj : j < zs.length), w.cell? ⟨b, off + j, none⟩ = some (.int .i64 zs[j])
theorem IsInts.same {w w' : World} {lo n lo' n' : Nat} {a : Option Addr} {zs : List Int} (h : IsInts w lo n a zs) (hs : Same lo n w w') (hl : lo' ≤ lo) (hn : n ≤ n') : IsInts w' lo' n' a zs := by
  rcases h with h | ⟨b, off, h1, h0, h2, h3⟩
  · exact .inl h
  · exact .inr ⟨b, off, h1, by omega, by omega, fun j hj => (World.cell?_of_block (w := w) (hs b h0 h2)).trans (h3 j hj)⟩
theorem IsInts.kept {w w' : World} {lo n m : Nat} {a : Option Addr} {zs : List Int} (h : IsInts w lo n a zs) (hb : Below n w w') (hnm : n ≤ m) : IsInts w' lo m a zs := h.same (Below.same hb) (Nat.le_refl _) hnm

set_option maxHeartbeats 400000 in
theorem szIntS_any (a : Option Addr) (cap : Nat) (zs : List Int) (w : World) (left : Int) (hl : zs.length ≤ maxLen) (h0 : 0 ≤ left) (h1 : left ≤ 1048576) :
    Calls Try.prog 35 #[.slice a zs.length cap, .int .i64 left] w fun r w' => r = .returned (.int .i64 (leftI left zs.length)) ∧ Below w.heap.size w w' := by
  unfold maxLen at hl
  by_cases hb : left < (zs.length : Int)
  · have HF := hide (left_no (left := left) (n := zs.length) (by omega))
    go_enter Try.func35, Try.ntmps35
    go_wp2
    go_ret
    exact ⟨ret_int (unhide HF).symm, Below.refl _ _⟩
  · have HF := hide (left_yes (left := left) (n := zs.length) (by omega))
    go_enter Try.func35, Try.ntmps35
    go_wp2
    go_ret
    exact ⟨ret_int (unhide HF).symm, Below.refl _ _⟩

theorem intinfo : (Try.prog.info? 3).map (fun i => (i.zero, i.size, i.bytes)) = some (some (.int .i64 0), 1, 8) := by kernel_rfl
theorem make_ints (n : Nat) (hn : n ≤ 1048576) : ∃ M : Array Value, M.size = n ∧ ∀ W : World, (Instr.makeSlice 57 (.int .i64 (n : Int)) (.int .i64 (n : Int))).run Try.prog W = .ok (.slice (some ⟨W.heap.size, 0, none⟩) n n) (W.alloc (.cells M 3)) := by
  obtain ⟨i0, hi, hz0, hz1, hz2⟩ := info_parts intinfo
  refine ⟨madeCells (Value.int .i64 0).cells (((n : Nat) : Int).toNat * i0.size), by rw [size_madeCells, hz1]; simp, fun W => ?_⟩
  have h := run_make (P := Try.prog) W 57 3 i0 (.int .i64 0) Try.underlying57 hi hz0 .i64 .i64 (n : Int) (n : Int) (by omega) (by omega) (by rw [hz2]; omega) (by omega)
  simpa using h

set_option maxHeartbeats 1000000 in
theorem toIntS_any (lo : Nat) (a : Option Addr) (cap : Nat) (zs : List Int) (w : World) (h : IsInts w lo w.heap.size a zs) (hl : zs.length ≤ 1048576) :
    Calls Try.prog 37 #[.slice a zs.length cap] w fun e w' => ∃ (a' : Option Addr) (cap' : Nat), e = .returned (.slice a' zs.length cap') ∧ zs.length ≤ cap' ∧ IsInts w' w.heap.size w'.heap.size a' zs ∧ Below w.heap.size w w' := by
  obtain ⟨M, hM, hmk⟩ := make_ints zs.length hl
  have HW := hide h
  have HM := hide hM
  clear h hM
  go_enter Try.func37, Try.ntmps37
  go_wp2
  clear hmk
  go_loopw [4] (fun i wr => ∃ k : Nat, k ≤ zs.length ∧ i = .int .i64 k ∧ Hid (Below w.heap.size w wr) ∧ Hid (w.heap.size < wr.heap.size) ∧ Hid (∀ j (hj : j < zs.length), j < k → wr.cell? ⟨w.heap.size, j, none⟩ = some (.int .i64 zs[j])) ∧ Hid (∀ j, j < zs.length → ∃ v, wr.cell? ⟨w.heap.size, j, none⟩ = some v) ∧ Hid (∀ j, wr.frozen? ⟨w.heap.size, j, none⟩ = false)) (fun i _ => zs.length - (intOf i).toNat)
  case atStart =>
    refine ⟨0, Nat.zero_le _, rfl, hide ((Below.refl _ w).alloc (Nat.le_refl _) _), hide (by simp), hide (fun j _ hj => absurd hj (Nat.not_lt_zero _)), hide (fun j hj => ?_), hide (fun j => by simp)⟩
    rw [World.cell?_alloc_new]
    have : j < M.size := by rw [unhide HM]; exact hj
    exact ⟨_, Array.getElem?_eq_getElem this⟩
  case round =>
    obtain ⟨k, hk, rfl, HB, HZ, HD, HC, HF⟩ := hrel
    by_cases hp : k < zs.length
    · rcases (unhide HW).kept (unhide HB) (Nat.le_refl _) with h | ⟨b, off, rfl, hbl, hb, hc⟩
      · rw [h] at hp; simp at hp
      have hck := hc k hp
      obtain ⟨v, hv⟩ := unhide HC k hp
      have hf := unhide HF k
      obtain ⟨x, hx⟩ : ∃ x, zs[k]'hp = x := ⟨_, rfl⟩
      rw [hx] at hck
      have HX := hide hx
      clear hc hx
      go_wp2
      go_roundw
      case rel =>
        refine ⟨k + 1, by omega, by go_num, hide ((unhide HB).setCell (p := ⟨w.heap.size, k, none⟩) (Nat.le_refl _) _), hide (by simpa [World.setCell] using unhide HZ), hide (fun j hj hjk => ?_), hide (fun j hj => ?_), hide (fun j => by rw [World.frozen?_setCell]; exact unhide HF j)⟩
        · by_cases e : j = k
          · subst e
            rw [unhide HX]
            exact World.cell?_setCell_same' _ _ _ (by rw [hv]; rfl)
          · rw [World.cell?_setCell_other _ ⟨w.heap.size, k, none⟩ ⟨w.heap.size, j, none⟩ _ (by simp <;> omega)]
            exact unhide HD j hj (by omega)
        · by_cases e : j = k
          · subst e
            exact ⟨_, World.cell?_setCell_same' _ _ _ (by rw [hv]; rfl)⟩
          · rw [World.cell?_setCell_other _ ⟨w.heap.size, k, none⟩ ⟨w.heap.size, j, none⟩ _ (by simp <;> omega)]
            exact unhide HC j hj
      case measure => simp [intOf]; omega
    · go_wp2
      go_ret
      refine ⟨_, _, rfl, Nat.le_refl _, .inr ⟨w.heap.size, 0, rfl, Nat.le_refl _, unhide HZ, fun j hj => ?_⟩, unhide HB⟩
      rw [Nat.zero_add]
      exact unhide HD j hj (by omega)

set_option maxHeartbeats 1000000 in
theorem eqIntS_any (lo lo' : Nat) (a a2 : Option Addr) (cap cap2 : Nat) (zs : List Int) (w : World) (hl : zs.length ≤ maxLen) (h : IsInts w lo w.heap.size a zs) (h2 : IsInts w lo' w.heap.size a2 zs) :
    Calls Try.prog 39 #[.slice a zs.length cap, .slice a2 zs.length cap2] w fun e w' => e = .returned (.bool true) ∧ Below w.heap.size w w' := by
  unfold maxLen at hl
  have hq : ((zs.length : Int) != (zs.length : Int)) = false := by simp
  have HW := hide h
  have HV := hide h2
  clear h h2
  go_enter Try.func39, Try.ntmps39
  go_wp2
  go_loopw [5] (fun i wr => ∃ k n : Nat, k ≤ zs.length ∧ i = .int .i64 k ∧ wr = w.drewN n) (fun i _ => zs.length - (intOf i).toNat)
  case atStart => exact ⟨0, 0, Nat.zero_le _, rfl, rfl⟩
  case round =>
    obtain ⟨k, n, hk, rfl, rfl⟩ := hrel
    by_cases hp : k < zs.length
    · rcases unhide HW with h | ⟨b, off, rfl, hbl, hb, hc⟩
      · rw [h] at hp; simp at hp
      rcases unhide HV with h | ⟨b2, off2, rfl, hbl2, hb2, hc2⟩
      · rw [h] at hp; simp at hp
      have hck := hc k hp
      have hck2 := hc2 k hp
      obtain ⟨x, hx⟩ : ∃ x, zs[k]'hp = x := ⟨_, rfl⟩
      rw [hx] at hck hck2
      have he : (x != x) = false := by simp
      clear hc hc2 hx
      go_wp2
      go_quiet (fail)
      go_wp2
      go_roundw
      case rel => exact ⟨k + 1, _, by omega, by go_num, rfl⟩
      case measure => simp [intOf]; omega
    · go_wp2
      go_ret
      exact ⟨rfl, below_drewN (Below.refl _ _) _⟩
end Go.Proofs.Ytakcpfmpaopfdaa
