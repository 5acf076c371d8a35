/- The walks of l2Prims, l2Prim and spec.TreeArity. No conditions. -/
import Derived.Test.YtjnahhalgckggaaFb
namespace Go.Proofs.Ytjnahhalgckggaa
open Go.RowKit Go.PlainAid

/-- The primitives, in order. -/
def prims : List (List UInt8) := [[43], [45], [42], [47], [37], [60], [60, 61], [61], [110, 111, 116], [97, 116], [108, 101, 110], [112, 117, 116], [106, 111, 105, 110], [112, 114, 105, 110, 116], [97, 110, 100], [111, 114]]
def primAt (k : Nat) : ByteArray := ⟨(prims.getD k []).toArray⟩
/-- The number of a primitive, from 1 on; 0, if it is none. -/
def primN (l : List UInt8) : Nat := match prims.findIdx? (fun p => p == l) with | some k => k + 1 | none => 0
def noPrim (l : List UInt8) (k : Nat) : Prop := ∀ j, j < k → ((primAt j).toList == l) = false
theorem primAt_list (k : Nat) : (primAt k).toList = prims.getD k [] := by
  rw [ByteArray.toList_eq]; rfl
theorem primN_at {l : List UInt8} {k : Nat} (hk : k < 16) (hno : noPrim l k) (he : ((primAt k).toList == l) = true) : primN l = k + 1 := by
  have hl : prims.length = 16 := rfl
  have : prims.findIdx? (fun p => p == l) = some k := by
    rw [List.findIdx?_eq_some_iff_getElem]
    refine ⟨by omega, ?_, fun j hj => ?_⟩
    · rw [primAt_list] at he
      simpa [List.getD, hl, hk] using he
    · have := hno j hj
      rw [primAt_list] at this
      have hj' : j < prims.length := by omega
      simpa [List.getD, hj'] using this
  unfold primN
  rw [this]
theorem primN_none {l : List UInt8} (hno : noPrim l 16) : primN l = 0 := by
  have : prims.findIdx? (fun p => p == l) = none := by
    rw [List.findIdx?_eq_none_iff]
    intro p hp
    obtain ⟨j, hj, rfl⟩ := List.getElem_of_mem hp
    have := hno j hj
    rw [primAt_list] at this
    simpa [List.getD, hj] using this
  unfold primN
  rw [this]
theorem primN_le (l : List UInt8) : primN l ≤ 16 := by
  unfold primN
  split
  · rename_i k h
    rw [List.findIdx?_eq_some_iff_getElem] at h
    obtain ⟨h, _⟩ := h
    have : prims.length = 16 := rfl
    omega
  · omega

set_option maxHeartbeats 400000 in
theorem l2Prims_any (w : World) : Calls Try.prog 17 #[] w fun e w' => e = .returned (.slice (some ⟨w.heap.size, 0, none⟩) 16 16) ∧ (∀ k, k < 16 → w'.cell? ⟨w.heap.size, k, none⟩ = some (.string (primAt k))) ∧ Below w.heap.size w w' := by
  go_enter Try.func17, Try.ntmps17
  go_wp2
  go_ret
  refine ⟨rfl, fun k hk => ?_, (Below.refl _ _).alloc (Nat.le_refl _) _⟩
  rw [alloc_cell]
  have : k = 0 ∨ k = 1 ∨ k = 2 ∨ k = 3 ∨ k = 4 ∨ k = 5 ∨ k = 6 ∨ k = 7 ∨ k = 8 ∨ k = 9 ∨ k = 10 ∨ k = 11 ∨ k = 12 ∨ k = 13 ∨ k = 14 ∨ k = 15 := by omega
  rcases this with rfl | rfl | rfl | rfl | rfl | rfl | rfl | rfl | rfl | rfl | rfl | rfl | rfl | rfl | rfl | rfl <;> rfl

set_option maxHeartbeats 400000 in
theorem l2Prim_any (s : ByteArray) (w : World) : Calls Try.prog 31 #[.string s] w fun e w' => e = .returned (.int .i64 (primN s.toList : Nat)) ∧ Below w.heap.size w w' := by
  go_enter Try.func31, Try.ntmps31
  go_wp2_with fail
  refine (l2Prims_any w).mono ?_
  rintro r w2 ⟨rfl, hc, hb⟩
  have HC := hide hc
  have HB := hide hb
  clear hc hb
  go_wp2
  go_loop [4] (fun i => ∃ k : Nat, k ≤ 16 ∧ i = .int .i64 k ∧ Hid (noPrim s.toList k)) (fun i => 16 - (intOf i).toNat)
  case atStart => exact ⟨0, by omega, rfl, hide (fun j hj => absurd hj (Nat.not_lt_zero _))⟩
  case round =>
    obtain ⟨k, hk, rfl, HN⟩ := hrel
    by_cases hp : k < 16
    · have hck := unhide HC k hp
      obtain ⟨x, hx⟩ : ∃ x, primAt k = x := ⟨_, rfl⟩
      rw [hx] at hck
      cases he : (x.toList == s.toList) with
      | true =>
        have HF := hide (primN_at hp (unhide HN) (by rw [hx]; exact he))
        clear hx
        go_wp2
        go_ret
        exact ⟨ret_int (by rw [unhide HF]; omega), unhide HB⟩
      | false =>
        have HX := hide hx
        have HE := hide he
        clear hx
        go_wp2
        go_round
        case rel => exact ⟨k + 1, by omega, by go_num, hide (fun j hj => by
          by_cases e : j = k
          · subst e; rw [unhide HX]; exact unhide HE
          · exact unhide HN j (by omega))⟩
        case measure => simp [intOf]; omega
    · have HF := hide (primN_none (l := s.toList) (fun j hj => unhide HN j (by omega)))
      go_wp2
      go_ret
      exact ⟨ret_int (by rw [unhide HF]; rfl), unhide HB⟩

/-- How many operands a primitive has, by its number. -/
def arityI (n : Nat) : Int := if n = 0 then -1 else if n = 9 ∨ n = 11 ∨ n = 14 then 1 else if n = 12 then 3 else 2
end Go.Proofs.Ytjnahhalgckggaa
