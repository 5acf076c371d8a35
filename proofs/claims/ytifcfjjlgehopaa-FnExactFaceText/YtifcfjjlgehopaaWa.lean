/- The walks of impl.lexOwn, spec.l1Kept, impl.LexName and spec.LexName: each answers just what the plain functions say. No conditions. -/
import Derived.Test.YtifcfjjlgehopaaPlain
namespace Go.Proofs.Ytifcfjjlgehopaa
open Go.RowKit Go.PlainAid

set_option maxHeartbeats 400000 in
theorem lexOwn_any (s : ByteArray) (w : World) :
    Calls Try.prog 57 #[.string s] w fun e w' => e = .returned (.bool (keptB s.data.toList)) ∧ w = w' := by
  go_enter Try.func57, Try.ntmps57
  go_wp2
  all_goals
    go_ret
    refine ⟨?_, rfl⟩
    rw [← ByteArray.toList_eq]
    simp_all [keptB, kept]

def keptAt (k : Nat) : ByteArray := ⟨(kept.getD k []).toArray⟩
theorem keptAt_list (k : Nat) : (keptAt k).toList = kept.getD k [] := by unfold keptAt; exact ByteArray.toList_mk _
def noneOf (l : List UInt8) (k : Nat) : Prop := ∀ j, j < k → ((keptAt j).toList == l) = false
theorem kept_cells (w : World) (k : Nat) (h : k < 19) : (w.alloc (.cells #[Value.string { data := #[117, 115, 101] }, Value.string { data := #[102, 117, 110] }, Value.string { data := #[112, 117, 98] }, Value.string { data := #[109, 97, 105, 110] }, Value.string { data := #[105, 110, 116] }, Value.string { data := #[98, 111, 111, 108] }, Value.string { data := #[114, 111, 119] }, Value.string { data := #[105, 102] }, Value.string { data := #[108, 101, 116] }, Value.string { data := #[116, 114, 117, 101] }, Value.string { data := #[102, 97, 108, 115, 101] }, Value.string { data := #[97, 110, 100] }, Value.string { data := #[111, 114] }, Value.string { data := #[110, 111, 116] }, Value.string { data := #[97, 116] }, Value.string { data := #[108, 101, 110] }, Value.string { data := #[112, 117, 116] }, Value.string { data := #[106, 111, 105, 110] }, Value.string { data := #[112, 114, 105, 110, 116] }] 9)).cell? ⟨w.heap.size, k, none⟩ = some (.string (keptAt k)) := by
  rw [World.cell?_alloc_new]
  match k, h with
  | 0, _ | 1, _ | 2, _ | 3, _ | 4, _ | 5, _ | 6, _ | 7, _ | 8, _ | 9, _ | 10, _ | 11, _ | 12, _ | 13, _ | 14, _ | 15, _ | 16, _ | 17, _ | 18, _ => rfl
  | n + 19, h => omega
theorem getD_mem {k : Nat} (hk : k < kept.length) : kept.getD k [] = kept[k] := by simp [List.getD, hk]
theorem noneOf_end {l : List UInt8} (h : noneOf l 19) : keptB l = false := by
  unfold keptB
  rw [List.any_eq_false]
  intro x hx
  obtain ⟨j, hj, rfl⟩ := List.getElem_of_mem hx
  have := h j hj
  rw [keptAt_list, getD_mem hj] at this
  intro e
  rw [beq_iff_eq.1 e] at this
  simp at this
theorem keptB_at {l : List UInt8} {k : Nat} (hk : k < 19) (h : ((keptAt k).toList == l) = true) : keptB l = true := by
  unfold keptB
  rw [List.any_eq_true]
  have hk' : k < kept.length := hk
  rw [keptAt_list, getD_mem hk'] at h
  exact ⟨_, List.getElem_mem hk', by simpa using (beq_iff_eq.1 h).symm⟩
theorem noneOf_succ {l : List UInt8} {k : Nat} (h : noneOf l k) (h1 : ((keptAt k).toList == l) = false) : noneOf l (k + 1) := by
  intro j hj
  by_cases e : j = k
  · rw [e]; exact h1
  · exact h j (by omega)

set_option maxHeartbeats 400000 in
theorem l1Kept_any (s : ByteArray) (w : World) :
    Calls Try.prog 52 #[.string s] w fun e w' => e = .returned (.bool (keptB s.data.toList)) ∧ Below w.heap.size w w' := by
  go_enter Try.func52, Try.ntmps52
  go_wp2
  go_loop [4] (fun i => ∃ k : Nat, k ≤ 19 ∧ i = .int .i64 k ∧ noneOf s.toList k) (fun i => 19 - (intOf i).toNat)
  case atStart => exact ⟨0, by omega, rfl, fun j hj => by omega⟩
  case round =>
    obtain ⟨k, hk, rfl, hno⟩ := hrel
    by_cases hlt : k < 19
    · have hc := kept_cells w k hlt
      go_wp2
      · have he : ((keptAt k).toList == s.toList) = true := by assumption
        go_ret
        exact ⟨ret_bool (by rw [← ByteArray.toList_eq, keptB_at hlt he]), (Below.refl _ _).alloc (Nat.le_refl _) _⟩
      · have he : ((keptAt k).toList == s.toList) = false := by assumption
        go_round
        case rel => exact ⟨k + 1, by omega, by go_num, noneOf_succ hno he⟩
        case measure => simp [intOf]; omega
    · go_wp2
      go_ret
      have hk' : noneOf s.toList 19 := fun j hj => hno j (by omega)
      exact ⟨ret_bool (by rw [← ByteArray.toList_eq, noneOf_end hk']), (Below.refl _ _).alloc (Nat.le_refl _) _⟩

theorem all_snoc (s : ByteArray) (p : UInt8 → Bool) (k : Nat) (h : k < s.size) : (s.data.toList.take (k + 1)).all p = ((s.data.toList.take k).all p && p s[k]) := by
  have e : s.data.toList.take (k + 1) = s.data.toList.take k ++ [s[k]] := by
    rw [List.take_succ_eq_append_getElem (by simpa using h)]; rfl
  rw [e]; simp
theorem all_bad (s : ByteArray) (p : UInt8 → Bool) (k : Nat) (h : k < s.size) (hb : p s[k] = false) : s.data.toList.all p = false := by
  rw [List.all_eq_false]
  exact ⟨s[k], by exact Array.getElem_mem_toList (xs := s.data) h, by simp [hb]⟩
theorem all_end (s : ByteArray) (p : UInt8 → Bool) (k : Nat) (h : ¬ k < s.size) : (s.data.toList.take k).all p = s.data.toList.all p := by
  rw [List.take_of_length_le]
  show s.data.size ≤ k
  have : s.size = s.data.size := rfl
  omega

theorem nameB_short {l : List UInt8} (h : l.length < 1) : nameB l = false := by unfold nameB; rw [decide_eq_false (by omega)]; rfl
theorem nameB_long {l : List UInt8} (h : 8 < l.length) : nameB l = false := by
  unfold nameB; rw [decide_eq_false (p := l.length ≤ 8) (by omega)]; simp
theorem nameB_kept {l : List UInt8} (h : keptB l = true) : nameB l = false := by unfold nameB; simp [h]
theorem nameB_bad {l : List UInt8} (h : l.all letter = false) : nameB l = false := by unfold nameB; simp only [h, Bool.and_false]
theorem nameB_good {l : List UInt8} (h1 : ¬ l.length < 1) (h8 : ¬ 8 < l.length) (hk : keptB l = false) (h : l.all letter = true) : nameB l = true := by
  unfold nameB; rw [decide_eq_true (p := 1 ≤ l.length) (by omega), decide_eq_true (p := l.length ≤ 8) (by omega), hk, h]; rfl
theorem size_len (s : ByteArray) : s.size = s.data.toList.length := by rw [Array.length_toList]; rfl
theorem letter_yes {c : UInt8} (h1 : 97 ≤ c.toNat) (h2 : c.toNat ≤ 122) : letter c = true := by unfold letter; simp [h1, h2]
theorem letter_no {c : UInt8} (h : c.toNat < 97 ∨ 122 < c.toNat) : letter c = false := by
  unfold letter
  rcases h with h | h
  · rw [decide_eq_false (by omega)]; rfl
  · rw [decide_eq_false (p := c.toNat ≤ 122) (by omega)]; simp
end Go.Proofs.Ytifcfjjlgehopaa
