/- The walks of impl.lexBlank, impl.lexBracket and impl.lexClean. No conditions. -/
import Derived.Test.YtkegbdlbaanapaaPlainC
namespace Go.Proofs.Ytkegbdlbaanapaa
open Go.RowKit Go.PlainAid

theorem lexBlank_any (r : Int) (w : World) : Calls Try.prog 54 #[.int .i32 r] w fun e w' => e = .returned (.bool (r == 32 || r == 10)) ∧ w = w' := by
  cases h1 : (r == 32) with
  | true =>
    go_enter Try.func54, Try.ntmps54
    go_wp2
    go_ret
    exact ⟨rfl, rfl⟩
  | false =>
    go_enter Try.func54, Try.ntmps54
    go_wp2
    go_ret
    exact ⟨rfl, rfl⟩
theorem lexBracket_any (r : Int) (w : World) : Calls Try.prog 56 #[.int .i32 r] w fun e w' => e = .returned (.bool (r == 40 || r == 41)) ∧ w = w' := by
  cases h1 : (r == 40) with
  | true =>
    go_enter Try.func56, Try.ntmps56
    go_wp2
    go_ret
    exact ⟨rfl, rfl⟩
  | false =>
    go_enter Try.func56, Try.ntmps56
    go_wp2
    go_ret
    exact ⟨rfl, rfl⟩

def cleanB (s : ByteArray) : Bool := s.data.toList.all fine
set_option maxHeartbeats 1000000 in
theorem lexClean_any (s : ByteArray) (w : World) : Calls Try.prog 38 #[.string s] w fun e w' => e = .returned (.bool (cleanB s)) ∧ Below w.heap.size w w' := by
  go_enter Try.func38, Try.ntmps38
  go_wp2
  go_loopw [4] (fun _ w' => ∃ pos : Nat, w' = w.iter s pos ∧ Hid ((s.data.toList.take pos).all fine = true)) (fun _ w' => s.size - w'.iterPos w.heap.size)
  case atStart => exact ⟨0, rfl, hide rfl⟩
  case round =>
    obtain ⟨pos, rfl, HA⟩ := hrel
    by_cases hp : pos < s.size
    · by_cases ha : (s[pos]'hp).toNat < 128
      · have hnx : ∀ ty, (Instr.next (.pointer (some ⟨w.heap.size, 0, none⟩)) true ty).run Try.prog (w.iter s pos) = _ := fun ty => run_next_ascii w s pos ty hp ha
        have HB := hide (blank_iff (s[pos]'hp))
        cases hbl : ((((s[pos]'hp).toNat : Int) == 32) || (((s[pos]'hp).toNat : Int) == 10)) with
        | true =>
          have HF : Hid (fine (s[pos]'hp) = true) := hide (by unfold fine; rw [unhide HB, hbl]; rfl)
          go_wp2_with (go_at_call 54; refine (lexBlank_any _ _).mono ?_; rintro e w' ⟨rfl, rfl⟩; rw [hbl])
          go_roundw
          case rel => exact ⟨pos + 1, rfl, hide (by rw [all_snoc s fine pos hp, unhide HA, unhide HF]; rfl)⟩
          case measure => simp; omega
        | false =>
          by_cases g1 : (s[pos]'hp).toNat < 33
          · have HF : Hid (cleanB s = false) := hide (all_bad s fine pos hp (by unfold fine; rw [unhide HB, hbl, decide_eq_false (p := 33 ≤ _) (by omega)]; rfl))
            go_wp2_with (go_at_call 54; refine (lexBlank_any _ _).mono ?_; rintro e w' ⟨rfl, rfl⟩; rw [hbl])
            go_ret
            exact ⟨ret_bool (unhide HF).symm, (Below.refl _ _).alloc (Nat.le_refl _) _⟩
          by_cases g2 : 126 < (s[pos]'hp).toNat
          · have HF : Hid (cleanB s = false) := hide (all_bad s fine pos hp (by unfold fine; rw [unhide HB, hbl, decide_eq_false (p := _ ≤ 126) (by omega)]; simp))
            go_wp2_with (go_at_call 54; refine (lexBlank_any _ _).mono ?_; rintro e w' ⟨rfl, rfl⟩; rw [hbl])
            go_ret
            exact ⟨ret_bool (unhide HF).symm, (Below.refl _ _).alloc (Nat.le_refl _) _⟩
          have HF : Hid (fine (s[pos]'hp) = true) := hide (by unfold fine; rw [decide_eq_true (p := 33 ≤ _) (by omega), decide_eq_true (p := _ ≤ 126) (by omega)]; simp)
          go_wp2_with (go_at_call 54; refine (lexBlank_any _ _).mono ?_; rintro e w' ⟨rfl, rfl⟩; rw [hbl])
          go_roundw
          case rel => exact ⟨pos + 1, rfl, hide (by rw [all_snoc s fine pos hp, unhide HA, unhide HF]; rfl)⟩
          case measure => simp; omega
      · have hnx : ∀ ty, (Instr.next (.pointer (some ⟨w.heap.size, 0, none⟩)) true ty).run Try.prog (w.iter s pos) = _ := fun ty => run_next_any w s pos ty hp
        have hd := (decode_high s pos hp (by omega)).1
        have hbl : (((Utf8.decode s pos).1 : Int) == 32 || ((Utf8.decode s pos).1 : Int) == 10) = false := by
          rw [Bool.or_eq_false_iff, beq_eq_false_iff_ne, beq_eq_false_iff_ne]; omega
        have HF : Hid (cleanB s = false) := hide (all_bad s fine pos hp (by
          unfold fine
          rw [blank_iff, decide_eq_false (p := _ ≤ 126) (by omega)]
          simp; omega))
        go_wp2_with (go_at_call 54; refine (lexBlank_any _ _).mono ?_; rintro e w' ⟨rfl, rfl⟩; rw [hbl])
        go_ret
        exact ⟨ret_bool (unhide HF).symm, (Below.refl _ _).alloc (Nat.le_refl _) _⟩
    · have hnx : ∀ ty, (Instr.next (.pointer (some ⟨w.heap.size, 0, none⟩)) true ty).run Try.prog (w.iter s pos) = _ := fun ty => run_next_end w s pos ty hp
      have HF : Hid (cleanB s = true) := hide (by unfold cleanB; rw [← all_end s fine pos hp]; exact unhide HA)
      go_wp2
      go_ret
      exact ⟨ret_bool (unhide HF).symm, (Below.refl _ _).alloc (Nat.le_refl _) _⟩
end Go.Proofs.Ytkegbdlbaanapaa
