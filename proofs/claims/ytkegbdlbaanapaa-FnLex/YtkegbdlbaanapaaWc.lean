/- The walk of impl.lexDecimals. No conditions. -/
import Derived.Test.YtkegbdlbaanapaaPlainN
namespace Go.Proofs.Ytkegbdlbaanapaa
open Go.RowKit Go.PlainAid

set_option maxHeartbeats 1000000 in
theorem lexDecimals_any (s : ByteArray) (w : World) :
    Calls Try.prog 49 #[.string s] w fun e w' => e = .returned (.bool (decB s.data.toList)) ∧ Below w.heap.size w w' := by
  by_cases h1 : s.size < 1
  · go_enter Try.func49, Try.ntmps49
    go_wp2
    go_ret
    exact ⟨ret_bool (decB_short (by rw [← size_len]; exact h1)).symm, Below.refl _ _⟩
  by_cases h8 : 17 < s.size
  · go_enter Try.func49, Try.ntmps49
    go_wp2
    go_ret
    exact ⟨ret_bool (decB_long (by rw [← size_len]; exact h8)).symm, Below.refl _ _⟩
  have h0 : 0 < s.size := by omega
  by_cases hz : 1 < s.size ∧ (s[0]'h0).toNat = 48
  · obtain ⟨hz1, hz2⟩ := hz
    have HF := hide (decB_zero (l := s.data.toList) (by rw [← size_len]; exact hz1) (by rw [headZero_at s h0, beq_iff_eq]; exact UInt8.toNat_inj.1 hz2))
    have hzb : (((s[0]'h0).toNat : Int) == 48) = true := by rw [hz2]; rfl
    clear hz2
    go_enter Try.func49, Try.ntmps49
    go_wp2
    go_ret
    exact ⟨ret_bool (unhide HF).symm, Below.refl _ _⟩
  have hz' : ¬ 1 < s.data.toList.length ∨ headZero s.data.toList = false := by
    by_cases h : 1 < s.size
    · right
      rw [headZero_at s h0]
      simp only [beq_eq_false_iff_ne]
      intro e
      exact hz ⟨h, by rw [e]; rfl⟩
    · left; rw [← size_len]; exact h
  have HZ := hide hz'
  have H1 := hide h1
  have H8 := hide h8
  clear hz'
  have hend : ∀ pos, ¬ pos < s.size → Hid ((s.data.toList.take pos).all digit = true) → decB s.data.toList = true := fun pos hp HA =>
    decB_good (by rw [← size_len]; exact unhide H1) (by rw [← size_len]; exact unhide H8) (unhide HZ) (by rw [← all_end s digit pos hp]; exact unhide HA)
  have HE := hide hend
  clear hend
  by_cases hone : 1 < s.size
  all_goals
    first
    | (have hzb : (((s[0]'h0).toNat : Int) == 48) = false := by (rw [beq_eq_false_iff_ne]; intro e; exact hz ⟨hone, by omega⟩))
    | skip
    clear hz
    go_enter Try.func49, Try.ntmps49
    go_wp2
    go_loopw [4] (fun _ w' => ∃ pos : Nat, w' = w.iter s pos ∧ (s.data.toList.take pos).all digit = true) (fun _ w' => s.size - w'.iterPos w.heap.size)
    case atStart => exact ⟨0, rfl, rfl⟩
    case round =>
      obtain ⟨pos, rfl, hall⟩ := hrel
      have HA := hide hall
      clear hall
      by_cases hp : pos < s.size
      · by_cases ha : (s[pos]'hp).toNat < 128
        · have hnx : ∀ ty, (Instr.next (.pointer (some ⟨w.heap.size, 0, none⟩)) true ty).run Try.prog (w.iter s pos) = _ := fun ty => run_next_ascii w s pos ty hp ha
          by_cases g1 : (s[pos]'hp).toNat < 48
          · go_wp2
            go_ret
            exact ⟨ret_bool (decB_bad (all_bad s digit pos hp (digit_no (.inl g1)))).symm, (Below.refl _ _).alloc (Nat.le_refl _) _⟩
          by_cases g2 : 57 < (s[pos]'hp).toNat
          · go_wp2
            go_ret
            exact ⟨ret_bool (decB_bad (all_bad s digit pos hp (digit_no (.inr g2)))).symm, (Below.refl _ _).alloc (Nat.le_refl _) _⟩
          go_wp2
          go_roundw
          case rel => exact ⟨pos + 1, rfl, by rw [all_snoc s digit pos hp, unhide HA, digit_yes (by omega) (by omega)]; rfl⟩
          case measure => simp; omega
        · have hnx : ∀ ty, (Instr.next (.pointer (some ⟨w.heap.size, 0, none⟩)) true ty).run Try.prog (w.iter s pos) = _ := fun ty => run_next_any w s pos ty hp
          have hd := (decode_high s pos hp (by omega)).1
          go_wp2
          go_ret
          exact ⟨ret_bool (decB_bad (all_bad s digit pos hp (digit_no (.inr (by omega))))).symm, (Below.refl _ _).alloc (Nat.le_refl _) _⟩
      · have hnx : ∀ ty, (Instr.next (.pointer (some ⟨w.heap.size, 0, none⟩)) true ty).run Try.prog (w.iter s pos) = _ := fun ty => run_next_end w s pos ty hp
        go_wp2
        go_ret
        exact ⟨ret_bool (unhide HE pos hp HA).symm, (Below.refl _ _).alloc (Nat.le_refl _) _⟩
end Go.Proofs.Ytkegbdlbaanapaa
