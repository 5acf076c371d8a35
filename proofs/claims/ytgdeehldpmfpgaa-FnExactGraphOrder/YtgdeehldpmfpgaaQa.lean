/- Rows of words in memory, and the walks of szStringS, toStringS, eqStringS. Conditions: the rows can be read. -/
import Derived.Test.YtgdeehldpmfpgaaFa
namespace Go.Proofs.Ytgdeehldpmfpgaa
open Go.RowKit Go.PlainAid

/-- A row of words that can be read, in a block from lo on and below n. -/
def IsWds (w : World) (lo n : Nat) (a : Option Addr) (ws : List ByteArray) : Prop :=
  ws = [] ∨ ∃ b off : Nat, a = some ⟨b, off, none⟩ ∧ lo ≤ b ∧ b < n ∧ ∀ j (hj : j < ws.length), w.cell? ⟨b, off + j, none⟩ = some (.string ws[j])
theorem IsWds.same {w w' : World} {lo n lo' n' : Nat} {a : Option Addr} {ws : List ByteArray} (h : IsWds w lo n a ws) (hs : Same lo n w w') (hl : lo' ≤ lo) (hn : n ≤ n') : IsWds w' lo' n' a ws := by
  rcases h with h | ⟨b, off, h1, h0, h2, h3⟩
  · exact .inl h
  · exact .inr ⟨b, off, h1, by omega, by omega, fun j hj => (World.cell?_of_block (w := w) (hs b h0 h2)).trans (h3 j hj)⟩
theorem IsWds.kept {w w' : World} {lo n m : Nat} {a : Option Addr} {ws : List ByteArray} (h : IsWds w lo n a ws) (hb : Below n w w') (hnm : n ≤ m) : IsWds w' lo m a ws := h.same (Below.same hb) (Nat.le_refl _) hnm
def wtWds (l : List ByteArray) : Nat := (l.map ByteArray.size).sum
theorem wtWds_step (xs : List ByteArray) (k : Nat) (h : k < xs.length) : wtWds (xs.take (k + 1)) = wtWds (xs.take k) + xs[k].size := by
  unfold wtWds; rw [List.take_succ_eq_append_getElem h, List.map_append, List.sum_append]; simp
theorem wtWds_le (xs : List ByteArray) (k : Nat) : wtWds (xs.take k) ≤ wtWds xs := by
  have : wtWds xs = wtWds (xs.take k) + wtWds (xs.drop k) := by
    unfold wtWds
    conv => lhs; rw [← List.take_append_drop k xs]
    rw [List.map_append, List.sum_append]
  omega

set_option maxHeartbeats 1000000 in
theorem szWds_any (lo : Nat) (a : Option Addr) (cap : Nat) (ws : List ByteArray) (w : World) (left : Int) (h : IsWds w lo w.heap.size a ws) (hl : ws.length ≤ maxLen) (hs : ∀ x ∈ ws, x.size ≤ maxLen) (h0 : 0 ≤ left) (h1 : left ≤ 1048576) :
    Calls Try.prog 28 #[.slice a ws.length cap, .int .i64 left] w fun r w' => r = .returned (.int .i64 (leftI left (ws.length + wtWds ws))) ∧ Below w.heap.size w w' := by
  have HW := hide h
  have HS := hide hs
  unfold maxLen at hl
  clear h hs
  by_cases hb : left < (ws.length : Int)
  · have HF := hide (left_no (left := left) (n := ws.length + wtWds ws) (by omega))
    go_enter Try.func28, Try.ntmps28
    go_wp2
    go_ret
    exact ⟨ret_int (unhide HF).symm, Below.refl _ _⟩
  obtain ⟨L, hL⟩ := Int.eq_ofNat_of_zero_le (show 0 ≤ left - ws.length by omega)
  have HL := hide hL
  have hL2 : L ≤ 1048576 := by omega
  go_enter Try.func28, Try.ntmps28
  go_wp2
  go_loop [1, 5] (fun l i => ∃ k M : Nat, k ≤ ws.length ∧ i = .int .i64 k ∧ l = .int .i64 M ∧ M ≤ 1048576 ∧ Hid (wtWds (ws.take k) + M = L)) (fun _ i => ws.length - (intOf i).toNat)
  case atStart => exact ⟨0, L, Nat.zero_le _, rfl, by rw [← unhide HL], hL2, hide (by simp [wtWds])⟩
  case round =>
    obtain ⟨k, M, hk, rfl, rfl, hM, HR⟩ := hrel
    by_cases hp : k < ws.length
    · rcases unhide HW with h | ⟨b, off, rfl, hbl, hbn, hc⟩
      · rw [h] at hp; simp at hp
      have hck := hc k hp
      have hsz := unhide HS _ (List.getElem_mem hp)
      have HST := hide (wtWds_step ws k hp)
      have HLE := hide (wtWds_le ws (k + 1))
      obtain ⟨x, hx⟩ : ∃ x, ws[k]'hp = x := ⟨_, rfl⟩
      rw [hx] at hck hsz HST
      unfold maxLen at hsz
      clear hc hx
      by_cases hneg : (M : Int) - (x.size : Int) < 0
      · have HN : Hid (leftI left (ws.length + wtWds ws) = -1) := hide (left_no (by
          have h1 := unhide HR
          have h2 := unhide HST
          have h3 := unhide HLE
          have h4 := unhide HL
          omega))
        go_wp2
        go_ret
        exact ⟨ret_int (unhide HN).symm, Below.refl _ _⟩
      · have HM : Hid (((M - x.size : Nat) : Int) = (M : Int) - (x.size : Int)) := hide (by omega)
        go_wp2
        go_round
        case rel => exact ⟨k + 1, M - x.size, by omega, by go_num, by rw [unhide HM], by omega, hide (by rw [unhide HST]; have := unhide HR; omega)⟩
        case measure => simp [intOf]; omega
    · have HF : Hid (leftI left (ws.length + wtWds ws) = (M : Int)) := hide (by
        have h1 := unhide HR
        rw [List.take_of_length_le (by omega)] at h1
        have h2 := unhide HL
        rw [left_yes (by omega)]; omega)
      go_wp2
      go_ret
      exact ⟨ret_int (unhide HF).symm, Below.refl _ _⟩

theorem wsinfo : (Try.prog.info? 9).map (fun i => (i.zero, i.size, i.bytes)) = some (some (.string ⟨#[]⟩), 1, 16) := by kernel_rfl
theorem make_wds (n : Nat) (hn : n ≤ 1048576) : ∃ M : Array Value, M.size = n ∧ ∀ W : World, (Instr.makeSlice 25 (.int .i64 (n : Int)) (.int .i64 (n : Int))).run Try.prog W = .ok (.slice (some ⟨W.heap.size, 0, none⟩) n n) (W.alloc (.cells M 9)) := by
  obtain ⟨i0, hi, hz0, hz1, hz2⟩ := info_parts wsinfo
  refine ⟨madeCells (Value.string ⟨#[]⟩).cells (((n : Nat) : Int).toNat * i0.size), by rw [size_madeCells, hz1]; simp, fun W => ?_⟩
  have h := run_make (P := Try.prog) W 25 9 i0 (.string ⟨#[]⟩) Try.underlying25 hi hz0 .i64 .i64 (n : Int) (n : Int) (by omega) (by omega) (by rw [hz2]; omega) (by omega)
  simpa using h

set_option maxHeartbeats 1000000 in
theorem toWds_any (lo : Nat) (a : Option Addr) (cap : Nat) (ws : List ByteArray) (w : World) (h : IsWds w lo w.heap.size a ws) (hl : ws.length ≤ 1048576) :
    Calls Try.prog 29 #[.slice a ws.length cap] w fun e w' => ∃ (a' : Option Addr) (cap' : Nat), e = .returned (.slice a' ws.length cap') ∧ ws.length ≤ cap' ∧ IsWds w' w.heap.size w'.heap.size a' ws ∧ Below w.heap.size w w' := by
  obtain ⟨M, hM, hmk⟩ := make_wds ws.length hl
  have HW := hide h
  have HM := hide hM
  clear h hM
  go_enter Try.func29, Try.ntmps29
  go_wp2
  clear hmk
  go_loopw [4] (fun i wr => ∃ k : Nat, k ≤ ws.length ∧ i = .int .i64 k ∧ Hid (Below w.heap.size w wr) ∧ Hid (w.heap.size < wr.heap.size) ∧ Hid (∀ j (hj : j < ws.length), j < k → wr.cell? ⟨w.heap.size, j, none⟩ = some (.string ws[j])) ∧ Hid (∀ j, j < ws.length → ∃ v, wr.cell? ⟨w.heap.size, j, none⟩ = some v) ∧ Hid (∀ j, wr.frozen? ⟨w.heap.size, j, none⟩ = false)) (fun i _ => ws.length - (intOf i).toNat)
  case atStart =>
    refine ⟨0, Nat.zero_le _, rfl, hide ((Below.refl _ w).alloc (Nat.le_refl _) _), hide (by simp), hide (fun j _ hj => absurd hj (Nat.not_lt_zero _)), hide (fun j hj => ?_), hide (fun j => by simp)⟩
    rw [World.cell?_alloc_new]
    have : j < M.size := by rw [unhide HM]; exact hj
    exact ⟨_, Array.getElem?_eq_getElem this⟩
  case round =>
    obtain ⟨k, hk, rfl, HB, HZ, HD, HC, HF⟩ := hrel
    by_cases hp : k < ws.length
    · rcases (unhide HW).kept (unhide HB) (Nat.le_refl _) with h | ⟨b, off, rfl, hbl, hb, hc⟩
      · rw [h] at hp; simp at hp
      have hck := hc k hp
      obtain ⟨v, hv⟩ := unhide HC k hp
      have hf := unhide HF k
      obtain ⟨x, hx⟩ : ∃ x, ws[k]'hp = x := ⟨_, rfl⟩
      rw [hx] at hck
      have HX := hide hx
      clear hc hx
      go_wp2
      go_roundw
      case rel =>
        refine ⟨k + 1, by omega, by go_num, hide ((unhide HB).setCell (p := ⟨w.heap.size, k, none⟩) (Nat.le_refl _) _), hide (by simpa [World.setCell] using unhide HZ), hide (fun j hj hjk => ?_), hide (fun j hj => ?_), hide (fun j => by rw [World.frozen?_setCell]; exact unhide HF j)⟩
        · by_cases e : j = k
          · subst e
            rw [unhide HX]
            exact World.cell?_setCell_same' _ _ _ (by rw [hv]; rfl)
          · rw [World.cell?_setCell_other _ ⟨w.heap.size, k, none⟩ ⟨w.heap.size, j, none⟩ _ (by simp <;> omega)]
            exact unhide HD j hj (by omega)
        · by_cases e : j = k
          · subst e
            exact ⟨_, World.cell?_setCell_same' _ _ _ (by rw [hv]; rfl)⟩
          · rw [World.cell?_setCell_other _ ⟨w.heap.size, k, none⟩ ⟨w.heap.size, j, none⟩ _ (by simp <;> omega)]
            exact unhide HC j hj
      case measure => simp [intOf]; omega
    · go_wp2
      go_ret
      refine ⟨_, _, rfl, Nat.le_refl _, .inr ⟨w.heap.size, 0, rfl, Nat.le_refl _, unhide HZ, fun j hj => ?_⟩, unhide HB⟩
      rw [Nat.zero_add]
      exact unhide HD j hj (by omega)

set_option maxHeartbeats 1000000 in
theorem eqWds_any (lo lo' : Nat) (a a2 : Option Addr) (cap cap2 : Nat) (ws : List ByteArray) (w : World) (hl : ws.length ≤ maxLen) (h : IsWds w lo w.heap.size a ws) (h2 : IsWds w lo' w.heap.size a2 ws) :
    Calls Try.prog 24 #[.slice a ws.length cap, .slice a2 ws.length cap2] w fun e w' => e = .returned (.bool true) ∧ Below w.heap.size w w' := by
  unfold maxLen at hl
  have hq : ((ws.length : Int) != (ws.length : Int)) = false := by simp
  have HW := hide h
  have HV := hide h2
  clear h h2
  go_enter Try.func24, Try.ntmps24
  go_wp2
  go_loopw [5] (fun i wr => ∃ k n : Nat, k ≤ ws.length ∧ i = .int .i64 k ∧ wr = w.drewN n) (fun i _ => ws.length - (intOf i).toNat)
  case atStart => exact ⟨0, 0, Nat.zero_le _, rfl, rfl⟩
  case round =>
    obtain ⟨k, n, hk, rfl, rfl⟩ := hrel
    by_cases hp : k < ws.length
    · rcases unhide HW with h | ⟨b, off, rfl, hbl, hb, hc⟩
      · rw [h] at hp; simp at hp
      rcases unhide HV with h | ⟨b2, off2, rfl, hbl2, hb2, hc2⟩
      · rw [h] at hp; simp at hp
      have hck := hc k hp
      have hck2 := hc2 k hp
      obtain ⟨x, hx⟩ : ∃ x, ws[k]'hp = x := ⟨_, rfl⟩
      rw [hx] at hck hck2
      have he : (x.toList == x.toList) = true := by simp
      clear hc hc2 hx
      go_wp2
      go_quiet (fail)
      go_wp2
      go_roundw
      case rel => exact ⟨k + 1, _, by omega, by go_num, rfl⟩
      case measure => simp [intOf]; omega
    · go_wp2
      go_ret
      exact ⟨rfl, below_drewN (Below.refl _ _) _⟩
end Go.Proofs.Ytgdeehldpmfpgaa
