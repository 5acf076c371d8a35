/- The walks of spec.TreeType, l2Prims, l2Prim and spec.TreeArity. No conditions. The walk of impl.TreeType. No conditions. The walks of impl.lexOwn, spec.l1Kept, impl.LexName and spec.LexName: each answers just what the plain functions say. No conditions. The walks of impl.LexName and spec.LexName: each answers whether the text is a name. No conditions. -/
import Derived.Test.YtffabnmgcicpiaaGreatPlain
import Derived.Below
namespace Go.Proofs.YtffabnmgcicpiaaGreat
open Go.RowKit Go.PlainAid

/-- The word of a type. -/
def typeW (t : Int) : ByteArray := if t = 1 then ⟨#[105, 110, 116]⟩ else if t = 2 then ⟨#[98, 111, 111, 108]⟩ else if t = 3 then ⟨#[114, 111, 119]⟩ else ⟨#[]⟩
theorem ret_strT {a b : ByteArray} (h : a = b) : Ending.returned (.string a) = .returned (.string b) := by rw [h]

set_option maxHeartbeats 400000 in
theorem TreeTypeS_any (t : Int) (w : World) :
    Calls Tryz.prog 34 #[.int .i64 t] w fun e w' => e = .returned (.string (typeW t)) ∧ Below w.heap.size w w' := by
  by_cases h1 : t < 1
  · have HT : Hid (typeW t = ⟨#[]⟩) := hide (by unfold typeW; rw [if_neg (by omega), if_neg (by omega), if_neg (by omega)])
    go_enter Tryz.func34, Tryz.ntmps34
    go_wp2
    go_ret
    exact ⟨ret_strT (unhide HT).symm, Below.refl _ _⟩
  by_cases h3 : 3 < t
  · have HT : Hid (typeW t = ⟨#[]⟩) := hide (by unfold typeW; rw [if_neg (by omega), if_neg (by omega), if_neg (by omega)])
    go_enter Tryz.func34, Tryz.ntmps34
    go_wp2
    go_ret
    exact ⟨ret_strT (unhide HT).symm, Below.refl _ _⟩
  have hc : t = 1 ∨ t = 2 ∨ t = 3 := by omega
  rcases hc with rfl | rfl | rfl
  · clear h1 h3
    go_enter Tryz.func34, Tryz.ntmps34
    go_wp2
    go_ret
    exact ⟨rfl, (Below.refl _ _).alloc (Nat.le_refl _) _⟩
  · clear h1 h3
    go_enter Tryz.func34, Tryz.ntmps34
    go_wp2
    go_ret
    exact ⟨rfl, (Below.refl _ _).alloc (Nat.le_refl _) _⟩
  · clear h1 h3
    go_enter Tryz.func34, Tryz.ntmps34
    go_wp2
    go_ret
    exact ⟨rfl, (Below.refl _ _).alloc (Nat.le_refl _) _⟩
end Go.Proofs.YtffabnmgcicpiaaGreat

namespace Go.Proofs.YtffabnmgcicpiaaGreat
open Go.RowKit Go.PlainAid

set_option maxHeartbeats 400000 in
theorem TreeTypeI_any (t : Int) (w : World) :
    Calls Tryz.prog 41 #[.int .i64 t] w fun e w' => e = .returned (.string (typeW t)) ∧ w = w' := by
  have hc : t = 1 ∨ t = 2 ∨ t = 3 ∨ ((t == 1) = false ∧ (t == 2) = false ∧ (t == 3) = false) := by
    simp only [beq_eq_false_iff_ne]; omega
  rcases hc with rfl | rfl | rfl | ⟨n1, n2, n3⟩
  iterate 3
    · go_enter Tryz.func41, Tryz.ntmps41
      go_wp2
      go_ret
      exact ⟨rfl, rfl⟩
  · have HT : Hid (typeW t = ⟨#[]⟩) := hide (by
      simp only [beq_eq_false_iff_ne] at n1 n2 n3
      unfold typeW; rw [if_neg (by omega), if_neg (by omega), if_neg (by omega)])
    go_enter Tryz.func41, Tryz.ntmps41
    go_wp2
    go_ret
    exact ⟨ret_strT (unhide HT).symm, rfl⟩

end Go.Proofs.YtffabnmgcicpiaaGreat

namespace Go.Proofs.YtffabnmgcicpiaaGreat
open Go.RowKit Go.PlainAid

set_option maxHeartbeats 400000 in
theorem lexOwn_any (s : ByteArray) (w : World) :
    Calls Tryz.prog 56 #[.string s] w fun e w' => e = .returned (.bool (keptB s.data.toList)) ∧ w = w' := by
  go_enter Tryz.func56, Tryz.ntmps56
  go_wp2
  all_goals
    go_ret
    refine ⟨?_, rfl⟩
    rw [← ByteArray.toList_eq]
    simp_all [keptB, kept]

def keptAt (k : Nat) : ByteArray := ⟨(kept.getD k []).toArray⟩
theorem keptAt_list (k : Nat) : (keptAt k).toList = kept.getD k [] := by unfold keptAt; exact ByteArray.toList_mk _
def noneOf (l : List UInt8) (k : Nat) : Prop := ∀ j, j < k → ((keptAt j).toList == l) = false
theorem kept_cells (w : World) (k : Nat) (h : k < 19) : (w.alloc (.cells #[Value.string { data := #[117, 115, 101] }, Value.string { data := #[102, 117, 110] }, Value.string { data := #[112, 117, 98] }, Value.string { data := #[109, 97, 105, 110] }, Value.string { data := #[105, 110, 116] }, Value.string { data := #[98, 111, 111, 108] }, Value.string { data := #[114, 111, 119] }, Value.string { data := #[105, 102] }, Value.string { data := #[108, 101, 116] }, Value.string { data := #[116, 114, 117, 101] }, Value.string { data := #[102, 97, 108, 115, 101] }, Value.string { data := #[97, 110, 100] }, Value.string { data := #[111, 114] }, Value.string { data := #[110, 111, 116] }, Value.string { data := #[97, 116] }, Value.string { data := #[108, 101, 110] }, Value.string { data := #[112, 117, 116] }, Value.string { data := #[106, 111, 105, 110] }, Value.string { data := #[112, 114, 105, 110, 116] }] 9)).cell? ⟨w.heap.size, k, none⟩ = some (.string (keptAt k)) := by
  rw [World.cell?_alloc_new]
  match k, h with
  | 0, _ | 1, _ | 2, _ | 3, _ | 4, _ | 5, _ | 6, _ | 7, _ | 8, _ | 9, _ | 10, _ | 11, _ | 12, _ | 13, _ | 14, _ | 15, _ | 16, _ | 17, _ | 18, _ => rfl
  | n + 19, h => omega
theorem getD_mem {k : Nat} (hk : k < kept.length) : kept.getD k [] = kept[k] := by simp [List.getD, hk]
theorem noneOf_end {l : List UInt8} (h : noneOf l 19) : keptB l = false := by
  unfold keptB
  rw [List.any_eq_false]
  intro x hx
  obtain ⟨j, hj, rfl⟩ := List.getElem_of_mem hx
  have := h j hj
  rw [keptAt_list, getD_mem hj] at this
  intro e
  rw [beq_iff_eq.1 e] at this
  simp at this
theorem keptB_at {l : List UInt8} {k : Nat} (hk : k < 19) (h : ((keptAt k).toList == l) = true) : keptB l = true := by
  unfold keptB
  rw [List.any_eq_true]
  have hk' : k < kept.length := hk
  rw [keptAt_list, getD_mem hk'] at h
  exact ⟨_, List.getElem_mem hk', by simpa using (beq_iff_eq.1 h).symm⟩
theorem noneOf_succ {l : List UInt8} {k : Nat} (h : noneOf l k) (h1 : ((keptAt k).toList == l) = false) : noneOf l (k + 1) := by
  intro j hj
  by_cases e : j = k
  · rw [e]; exact h1
  · exact h j (by omega)

set_option maxHeartbeats 400000 in
theorem l1Kept_any (s : ByteArray) (w : World) :
    Calls Tryz.prog 49 #[.string s] w fun e w' => e = .returned (.bool (keptB s.data.toList)) ∧ Below w.heap.size w w' := by
  go_enter Tryz.func49, Tryz.ntmps49
  go_wp2
  go_loop [4] (fun i => ∃ k : Nat, k ≤ 19 ∧ i = .int .i64 k ∧ noneOf s.toList k) (fun i => 19 - (intOf i).toNat)
  case atStart => exact ⟨0, by omega, rfl, fun j hj => by omega⟩
  case round =>
    obtain ⟨k, hk, rfl, hno⟩ := hrel
    by_cases hlt : k < 19
    · have hc := kept_cells w k hlt
      go_wp2
      · have he : ((keptAt k).toList == s.toList) = true := by assumption
        go_ret
        exact ⟨ret_bool (by rw [← ByteArray.toList_eq, keptB_at hlt he]), (Below.refl _ _).alloc (Nat.le_refl _) _⟩
      · have he : ((keptAt k).toList == s.toList) = false := by assumption
        go_round
        case rel => exact ⟨k + 1, by omega, by go_num, noneOf_succ hno he⟩
        case measure => simp [intOf]; omega
    · go_wp2
      go_ret
      have hk' : noneOf s.toList 19 := fun j hj => hno j (by omega)
      exact ⟨ret_bool (by rw [← ByteArray.toList_eq, noneOf_end hk']), (Below.refl _ _).alloc (Nat.le_refl _) _⟩

theorem all_snoc (s : ByteArray) (p : UInt8 → Bool) (k : Nat) (h : k < s.size) : (s.data.toList.take (k + 1)).all p = ((s.data.toList.take k).all p && p s[k]) := by
  have e : s.data.toList.take (k + 1) = s.data.toList.take k ++ [s[k]] := by
    rw [List.take_succ_eq_append_getElem (by simpa using h)]; rfl
  rw [e]; simp
theorem all_bad (s : ByteArray) (p : UInt8 → Bool) (k : Nat) (h : k < s.size) (hb : p s[k] = false) : s.data.toList.all p = false := by
  rw [List.all_eq_false]
  exact ⟨s[k], by exact Array.getElem_mem_toList (xs := s.data) h, by simp [hb]⟩
theorem all_end (s : ByteArray) (p : UInt8 → Bool) (k : Nat) (h : ¬ k < s.size) : (s.data.toList.take k).all p = s.data.toList.all p := by
  rw [List.take_of_length_le]
  show s.data.size ≤ k
  have : s.size = s.data.size := rfl
  omega

theorem nameB_short {l : List UInt8} (h : l.length < 1) : nameB l = false := by unfold nameB; rw [decide_eq_false (by omega)]; rfl
theorem nameB_long {l : List UInt8} (h : 8 < l.length) : nameB l = false := by
  unfold nameB; rw [decide_eq_false (p := l.length ≤ 8) (by omega)]; simp
theorem nameB_kept {l : List UInt8} (h : keptB l = true) : nameB l = false := by unfold nameB; simp [h]
theorem nameB_bad {l : List UInt8} (h : l.all letter = false) : nameB l = false := by unfold nameB; simp only [h, Bool.and_false]
theorem nameB_good {l : List UInt8} (h1 : ¬ l.length < 1) (h8 : ¬ 8 < l.length) (hk : keptB l = false) (h : l.all letter = true) : nameB l = true := by
  unfold nameB; rw [decide_eq_true (p := 1 ≤ l.length) (by omega), decide_eq_true (p := l.length ≤ 8) (by omega), hk, h]; rfl
theorem size_len (s : ByteArray) : s.size = s.data.toList.length := by rw [Array.length_toList]; rfl
theorem letter_yes {c : UInt8} (h1 : 97 ≤ c.toNat) (h2 : c.toNat ≤ 122) : letter c = true := by unfold letter; simp [h1, h2]
theorem letter_no {c : UInt8} (h : c.toNat < 97 ∨ 122 < c.toNat) : letter c = false := by
  unfold letter
  rcases h with h | h
  · rw [decide_eq_false (by omega)]; rfl
  · rw [decide_eq_false (p := c.toNat ≤ 122) (by omega)]; simp
end Go.Proofs.YtffabnmgcicpiaaGreat

namespace Go.Proofs.YtffabnmgcicpiaaGreat
open Go.RowKit Go.PlainAid

set_option maxHeartbeats 1000000 in
theorem LexNameI_any (s : ByteArray) (w : World) :
    Calls Tryz.prog 43 #[.string s] w fun e w' => e = .returned (.bool (nameB s.data.toList)) ∧ Below w.heap.size w w' := by
  by_cases h1 : s.size < 1
  · go_enter Tryz.func43, Tryz.ntmps43
    go_wp2
    go_ret
    exact ⟨ret_bool (nameB_short (by rw [← size_len]; exact h1)).symm, Below.refl _ _⟩
  by_cases h8 : 8 < s.size
  · go_enter Tryz.func43, Tryz.ntmps43
    go_wp2
    go_ret
    exact ⟨ret_bool (nameB_long (by rw [← size_len]; exact h8)).symm, Below.refl _ _⟩
  cases hk : keptB s.data.toList with
  | true =>
    have HF := hide (nameB_kept hk)
    go_enter Tryz.func43, Tryz.ntmps43
    go_wp2_with (go_at_call 56; refine (lexOwn_any _ _).mono ?_; rintro e w' ⟨rfl, rfl⟩)
    go_ret
    exact ⟨ret_bool (unhide HF).symm, Below.refl _ _⟩
  | false =>
    have HK := hide hk
    have H1 := hide h1
    have H8 := hide h8
    go_enter Tryz.func43, Tryz.ntmps43
    go_wp2_with (go_at_call 56; refine (lexOwn_any _ _).mono ?_; rintro e w' ⟨rfl, rfl⟩)
    clear hk
    go_loopw [4] (fun _ w' => ∃ pos : Nat, w' = w.iter s pos ∧ (s.data.toList.take pos).all letter = true) (fun _ w' => s.size - w'.iterPos w.heap.size)
    case atStart => exact ⟨0, rfl, rfl⟩
    case round =>
      obtain ⟨pos, rfl, hall⟩ := hrel
      have HA := hide hall
      clear hall
      by_cases hp : pos < s.size
      · by_cases ha : (s[pos]'hp).toNat < 128
        · have hnx : ∀ ty, (Instr.next (.pointer (some ⟨w.heap.size, 0, none⟩)) true ty).run Tryz.prog (w.iter s pos) = _ := fun ty => run_next_ascii w s pos ty hp ha
          by_cases g1 : (s[pos]'hp).toNat < 97
          · go_wp2
            go_ret
            exact ⟨ret_bool (nameB_bad (all_bad s letter pos hp (letter_no (.inl g1)))).symm, (Below.refl _ _).alloc (Nat.le_refl _) _⟩
          by_cases g2 : 122 < (s[pos]'hp).toNat
          · go_wp2
            go_ret
            exact ⟨ret_bool (nameB_bad (all_bad s letter pos hp (letter_no (.inr g2)))).symm, (Below.refl _ _).alloc (Nat.le_refl _) _⟩
          go_wp2
          go_roundw
          case rel => exact ⟨pos + 1, rfl, by rw [all_snoc s letter pos hp, unhide HA, letter_yes (by omega) (by omega)]; rfl⟩
          case measure => simp; omega
        · have hnx : ∀ ty, (Instr.next (.pointer (some ⟨w.heap.size, 0, none⟩)) true ty).run Tryz.prog (w.iter s pos) = _ := fun ty => run_next_any w s pos ty hp
          have hd := (decode_high s pos hp (by omega)).1
          go_wp2
          go_ret
          exact ⟨ret_bool (nameB_bad (all_bad s letter pos hp (letter_no (.inr (by omega))))).symm, (Below.refl _ _).alloc (Nat.le_refl _) _⟩
      · have hnx : ∀ ty, (Instr.next (.pointer (some ⟨w.heap.size, 0, none⟩)) true ty).run Tryz.prog (w.iter s pos) = _ := fun ty => run_next_end w s pos ty hp
        go_wp2
        go_ret
        exact ⟨ret_bool (nameB_good (by rw [← size_len]; exact unhide H1) (by rw [← size_len]; exact unhide H8) (unhide HK) (by rw [← all_end s letter pos hp]; exact unhide HA)).symm, (Below.refl _ _).alloc (Nat.le_refl _) _⟩

set_option maxHeartbeats 1000000 in
theorem LexNameS_any (s : ByteArray) (w : World) :
    Calls Tryz.prog 32 #[.string s] w fun e w' => e = .returned (.bool (nameB s.data.toList)) ∧ Below w.heap.size w w' := by
  by_cases h1 : s.size < 1
  · go_enter Tryz.func32, Tryz.ntmps32
    go_wp2
    go_ret
    exact ⟨ret_bool (nameB_short (by rw [← size_len]; exact h1)).symm, Below.refl _ _⟩
  by_cases h8 : 8 < s.size
  · go_enter Tryz.func32, Tryz.ntmps32
    go_wp2
    go_ret
    exact ⟨ret_bool (nameB_long (by rw [← size_len]; exact h8)).symm, Below.refl _ _⟩
  cases hk : keptB s.data.toList with
  | true =>
    have HF := hide (nameB_kept hk)
    go_enter Tryz.func32, Tryz.ntmps32
    go_wp2_with (go_at_call 49; refine (l1Kept_any _ _).mono ?_; rintro e w1 ⟨rfl, hb⟩)
    go_ret
    exact ⟨ret_bool (unhide HF).symm, hb⟩
  | false =>
    have HK := hide hk
    have H1 := hide h1
    have H8 := hide h8
    go_enter Tryz.func32, Tryz.ntmps32
    go_wp2_with (go_at_call 49; refine (l1Kept_any _ _).mono ?_; rintro e w1 ⟨rfl, hb⟩)
    clear hk
    go_loop [3] (fun i => ∃ k : Nat, k ≤ s.size ∧ i = .int .i64 k ∧ (s.data.toList.take k).all letter = true) (fun i => s.size - (intOf i).toNat)
    case atStart => exact ⟨0, by omega, rfl, rfl⟩
    case round =>
      obtain ⟨k, hk, rfl, hall⟩ := hrel
      have HA := hide hall
      clear hall
      by_cases hp : k < s.size
      · by_cases g1 : (s[k]'hp).toNat < 97
        · go_wp2
          go_ret
          exact ⟨ret_bool (nameB_bad (all_bad s letter k hp (letter_no (.inl g1)))).symm, hb⟩
        by_cases g2 : 122 < (s[k]'hp).toNat
        · go_wp2
          go_ret
          exact ⟨ret_bool (nameB_bad (all_bad s letter k hp (letter_no (.inr g2)))).symm, hb⟩
        go_wp2
        go_round
        case rel => exact ⟨k + 1, by omega, by go_num, by rw [all_snoc s letter k hp, unhide HA, letter_yes (by omega) (by omega)]; rfl⟩
        case measure => simp [intOf]; omega
      · go_wp2
        go_ret
        exact ⟨ret_bool (nameB_good (by rw [← size_len]; exact unhide H1) (by rw [← size_len]; exact unhide H8) (unhide HK) (by rw [← all_end s letter k hp]; exact unhide HA)).symm, hb⟩
end Go.Proofs.YtffabnmgcicpiaaGreat
