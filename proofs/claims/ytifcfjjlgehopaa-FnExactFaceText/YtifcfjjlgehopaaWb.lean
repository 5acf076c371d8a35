/- The walks of impl.LexName and spec.LexName: each answers whether the text is a name. No conditions. -/
import Derived.Test.YtifcfjjlgehopaaWa
namespace Go.Proofs.Ytifcfjjlgehopaa
open Go.RowKit Go.PlainAid

set_option maxHeartbeats 1000000 in
theorem LexNameI_any (s : ByteArray) (w : World) :
    Calls Try.prog 38 #[.string s] w fun e w' => e = .returned (.bool (nameB s.data.toList)) ∧ Below w.heap.size w w' := by
  by_cases h1 : s.size < 1
  · go_enter Try.func38, Try.ntmps38
    go_wp2
    go_ret
    exact ⟨ret_bool (nameB_short (by rw [← size_len]; exact h1)).symm, Below.refl _ _⟩
  by_cases h8 : 8 < s.size
  · go_enter Try.func38, Try.ntmps38
    go_wp2
    go_ret
    exact ⟨ret_bool (nameB_long (by rw [← size_len]; exact h8)).symm, Below.refl _ _⟩
  cases hk : keptB s.data.toList with
  | true =>
    have HF := hide (nameB_kept hk)
    go_enter Try.func38, Try.ntmps38
    go_wp2_with (go_at_call 57; refine (lexOwn_any _ _).mono ?_; rintro e w' ⟨rfl, rfl⟩)
    go_ret
    exact ⟨ret_bool (unhide HF).symm, Below.refl _ _⟩
  | false =>
    have HK := hide hk
    have H1 := hide h1
    have H8 := hide h8
    go_enter Try.func38, Try.ntmps38
    go_wp2_with (go_at_call 57; refine (lexOwn_any _ _).mono ?_; rintro e w' ⟨rfl, rfl⟩)
    clear hk
    go_loopw [4] (fun _ w' => ∃ pos : Nat, w' = w.iter s pos ∧ (s.data.toList.take pos).all letter = true) (fun _ w' => s.size - w'.iterPos w.heap.size)
    case atStart => exact ⟨0, rfl, rfl⟩
    case round =>
      obtain ⟨pos, rfl, hall⟩ := hrel
      have HA := hide hall
      clear hall
      by_cases hp : pos < s.size
      · by_cases ha : (s[pos]'hp).toNat < 128
        · have hnx : ∀ ty, (Instr.next (.pointer (some ⟨w.heap.size, 0, none⟩)) true ty).run Try.prog (w.iter s pos) = _ := fun ty => run_next_ascii w s pos ty hp ha
          by_cases g1 : (s[pos]'hp).toNat < 97
          · go_wp2
            go_ret
            exact ⟨ret_bool (nameB_bad (all_bad s letter pos hp (letter_no (.inl g1)))).symm, (Below.refl _ _).alloc (Nat.le_refl _) _⟩
          by_cases g2 : 122 < (s[pos]'hp).toNat
          · go_wp2
            go_ret
            exact ⟨ret_bool (nameB_bad (all_bad s letter pos hp (letter_no (.inr g2)))).symm, (Below.refl _ _).alloc (Nat.le_refl _) _⟩
          go_wp2
          go_roundw
          case rel => exact ⟨pos + 1, rfl, by rw [all_snoc s letter pos hp, unhide HA, letter_yes (by omega) (by omega)]; rfl⟩
          case measure => simp; omega
        · have hnx : ∀ ty, (Instr.next (.pointer (some ⟨w.heap.size, 0, none⟩)) true ty).run Try.prog (w.iter s pos) = _ := fun ty => run_next_any w s pos ty hp
          have hd := (decode_high s pos hp (by omega)).1
          go_wp2
          go_ret
          exact ⟨ret_bool (nameB_bad (all_bad s letter pos hp (letter_no (.inr (by omega))))).symm, (Below.refl _ _).alloc (Nat.le_refl _) _⟩
      · have hnx : ∀ ty, (Instr.next (.pointer (some ⟨w.heap.size, 0, none⟩)) true ty).run Try.prog (w.iter s pos) = _ := fun ty => run_next_end w s pos ty hp
        go_wp2
        go_ret
        exact ⟨ret_bool (nameB_good (by rw [← size_len]; exact unhide H1) (by rw [← size_len]; exact unhide H8) (unhide HK) (by rw [← all_end s letter pos hp]; exact unhide HA)).symm, (Below.refl _ _).alloc (Nat.le_refl _) _⟩

set_option maxHeartbeats 1000000 in
theorem LexNameS_any (s : ByteArray) (w : World) :
    Calls Try.prog 34 #[.string s] w fun e w' => e = .returned (.bool (nameB s.data.toList)) ∧ Below w.heap.size w w' := by
  by_cases h1 : s.size < 1
  · go_enter Try.func34, Try.ntmps34
    go_wp2
    go_ret
    exact ⟨ret_bool (nameB_short (by rw [← size_len]; exact h1)).symm, Below.refl _ _⟩
  by_cases h8 : 8 < s.size
  · go_enter Try.func34, Try.ntmps34
    go_wp2
    go_ret
    exact ⟨ret_bool (nameB_long (by rw [← size_len]; exact h8)).symm, Below.refl _ _⟩
  cases hk : keptB s.data.toList with
  | true =>
    have HF := hide (nameB_kept hk)
    go_enter Try.func34, Try.ntmps34
    go_wp2_with (go_at_call 52; refine (l1Kept_any _ _).mono ?_; rintro e w1 ⟨rfl, hb⟩)
    go_ret
    exact ⟨ret_bool (unhide HF).symm, hb⟩
  | false =>
    have HK := hide hk
    have H1 := hide h1
    have H8 := hide h8
    go_enter Try.func34, Try.ntmps34
    go_wp2_with (go_at_call 52; refine (l1Kept_any _ _).mono ?_; rintro e w1 ⟨rfl, hb⟩)
    clear hk
    go_loop [3] (fun i => ∃ k : Nat, k ≤ s.size ∧ i = .int .i64 k ∧ (s.data.toList.take k).all letter = true) (fun i => s.size - (intOf i).toNat)
    case atStart => exact ⟨0, by omega, rfl, rfl⟩
    case round =>
      obtain ⟨k, hk, rfl, hall⟩ := hrel
      have HA := hide hall
      clear hall
      by_cases hp : k < s.size
      · by_cases g1 : (s[k]'hp).toNat < 97
        · go_wp2
          go_ret
          exact ⟨ret_bool (nameB_bad (all_bad s letter k hp (letter_no (.inl g1)))).symm, hb⟩
        by_cases g2 : 122 < (s[k]'hp).toNat
        · go_wp2
          go_ret
          exact ⟨ret_bool (nameB_bad (all_bad s letter k hp (letter_no (.inr g2)))).symm, hb⟩
        go_wp2
        go_round
        case rel => exact ⟨k + 1, by omega, by go_num, by rw [all_snoc s letter k hp, unhide HA, letter_yes (by omega) (by omega)]; rfl⟩
        case measure => simp [intOf]; omega
      · go_wp2
        go_ret
        exact ⟨ret_bool (nameB_good (by rw [← size_len]; exact unhide H1) (by rw [← size_len]; exact unhide H8) (unhide HK) (by rw [← all_end s letter k hp]; exact unhide HA)).symm, hb⟩
end Go.Proofs.Ytifcfjjlgehopaa
