/- The walks of strings.CutPrefix at a minus sign and of impl.LexNum. No conditions. -/
import Derived.Test.YtkegbdlbaanapaaWc
import Derived.Lib.Strings
namespace Go.Proofs.Ytkegbdlbaanapaa
open Go.RowKit Go.PlainAid

theorem ret_num {a b : Int} {c d : Bool} (h : a = b) (k : c = d) : Ending.returned (.tuple #[.int .i64 a, .bool c]) = .returned (.tuple #[.int .i64 b, .bool d]) := by rw [h, k]
def CutsMinus (s d : ByteArray) (neg : Bool) : Prop := ∀ w : World, Calls Try.prog 48 #[.string s, .string ⟨#[45]⟩] w fun e w' => e = .returned (.tuple #[.string d, .bool neg]) ∧ w = w'
theorem minus_cut (s : ByteArray) (h0 : 0 < s.size) (h : s[0] = 45) : CutsMinus s (s.extract 1 s.size) true := by
  intro w
  have hx : ((s.extract 0 1).toList == [45]) = true := by
    rw [Lib.extract_toList, beq_iff_eq]
    obtain ⟨⟨l⟩⟩ := s
    cases l with
    | nil => simp [ByteArray.size] at h0
    | cons a t => have e : a = 45 := h; simp [e]
  go_enter Try.func48, Try.ntmps48
  go_wp2
  go_ret2
  exact ⟨rfl, rfl⟩
theorem cut_no (s : ByteArray) (h : ∀ h0 : 0 < s.size, s[0] ≠ 45) : CutsMinus s s false := by
  intro w
  by_cases h0 : 0 < s.size
  · have hx : ((s.extract 0 1).toList == [45]) = false := by
      rw [Lib.extract_toList, beq_eq_false_iff_ne]
      have h' := h h0
      obtain ⟨⟨l⟩⟩ := s
      cases l with
      | nil => simp [ByteArray.size] at h0
      | cons a t => have e : a ≠ 45 := h'; simp [e]
    clear h
    go_enter Try.func48, Try.ntmps48
    go_wp2
    go_ret2
    exact ⟨rfl, rfl⟩
  · clear h
    go_enter Try.func48, Try.ntmps48
    go_wp2
    go_ret2
    exact ⟨rfl, rfl⟩

set_option maxHeartbeats 1000000 in
theorem LexNumI_of (s d : ByteArray) (neg : Bool) (hcut : CutsMinus s d neg) (w : World) :
    Calls Try.prog 23 #[.string s] w fun e w' => e = .returned (.tuple #[.int .i64 (valN neg d.data.toList), .bool (okN neg d.data.toList)]) ∧ Below w.heap.size w w' := by
  cases hdec : decB d.data.toList with
  | false =>
    have e1 : okN neg d.data.toList = false := by unfold okN; rw [hdec]; rfl
    have e2 : valN neg d.data.toList = 0 := by unfold valN; rw [e1]; rfl
    have E1 := hide e1
    have E2 := hide e2
    clear e1 e2
    go_enter Try.func23, Try.ntmps23
    go_wp2_with fail
    refine (hcut _).mono ?_
    rintro e w' ⟨rfl, rfl⟩
    go_wp2_with fail
    refine (lexDecimals_any _ _).mono ?_
    rintro e w1 ⟨rfl, hb⟩
    go_wp2
    go_ret2
    exact ⟨ret_num (unhide E2).symm (unhide E1).symm, hb⟩
  | true =>
    cases hneg : (neg && (d.data.toList == [48])) with
    | true =>
      have e1 : okN neg d.data.toList = false := by unfold okN; rw [hneg]; simp
      have e2 : valN neg d.data.toList = 0 := by unfold valN; rw [e1]; rfl
      have E1 := hide e1
      have E2 := hide e2
      clear e1 e2
      rw [Bool.and_eq_true] at hneg
      obtain ⟨rfl, hz⟩ := hneg
      rw [← ByteArray.toList_eq] at hz
      go_enter Try.func23, Try.ntmps23
      go_wp2_with fail
      refine (hcut _).mono ?_
      rintro e w' ⟨rfl, rfl⟩
      go_wp2_with fail
      refine (lexDecimals_any _ _).mono ?_
      rintro e w1 ⟨rfl, hb⟩
      go_wp2
      go_ret2
      exact ⟨ret_num (unhide E2).symm (unhide E1).symm, hb⟩
    | false =>
      obtain ⟨l1, l17, hall⟩ := decB_len hdec
      rw [← size_len] at l1 l17
      have e1 : okN neg d.data.toList = true := by unfold okN; rw [hdec, hneg]; rfl
      have e2 : valN neg d.data.toList = (if neg = true then - numZ d.data.toList else numZ d.data.toList) := by unfold valN; rw [if_pos e1]
      have E1 := hide e1
      have E2 := hide e2
      have HB := hide (numZ_small d hall l17)
      have HD := hide hall
      clear e1 e2 hall
      cases neg with
      | true =>
        have hz : (d.toList == [48]) = false := by rw [ByteArray.toList_eq]; simpa using hneg
        have HF : Hid (valN true d.data.toList = - numZ d.data.toList) := by rw [unhide E2]; rfl
        clear hneg
        go_enter Try.func23, Try.ntmps23
        go_wp2_with fail
        refine (hcut _).mono ?_
        rintro e w' ⟨rfl, rfl⟩
        go_wp2_with fail
        refine (lexDecimals_any _ _).mono ?_
        rintro e w1 ⟨rfl, hb⟩
        go_wp2
        go_loopw [6] (fun n w' => ∃ pos : Nat, w' = w1.iter d pos ∧ pos ≤ d.size ∧ n = .int .i64 (numZ (d.data.toList.take pos))) (fun _ w' => d.size - w'.iterPos w1.heap.size)
        case atStart => exact ⟨0, rfl, Nat.zero_le _, rfl⟩
        case round =>
          obtain ⟨pos, rfl, hle, rfl⟩ := hrel
          obtain ⟨n0, n1⟩ := unhide HB pos hle
          by_cases hp : pos < d.size
          · have hst := numZ_step d pos hp
            have hdg : 48 ≤ (d[pos]'hp).toNat ∧ (d[pos]'hp).toNat ≤ 57 := digit_lo ((List.all_eq_true.1 (unhide HD)) _ (byte_mem d pos hp))
            obtain ⟨g1, g2⟩ := hdg
            have hnx : ∀ ty, (Instr.next (.pointer (some ⟨w1.heap.size, 0, none⟩)) true ty).run Try.prog (w1.iter d pos) = _ := fun ty => run_next_ascii w1 d pos ty hp (by omega)
            have HS := hide hst
            clear hst
            go_wp2
            go_roundw
            case rel => exact ⟨pos + 1, rfl, by omega, by rw [unhide HS]⟩
            case measure => simp; omega
          · have hnx : ∀ ty, (Instr.next (.pointer (some ⟨w1.heap.size, 0, none⟩)) true ty).run Try.prog (w1.iter d pos) = _ := fun ty => run_next_end w1 d pos ty hp
            rw [take_all d pos hp] at n0 n1 ⊢
            go_wp2
            go_ret2
            exact ⟨ret_num (unhide HF).symm (unhide E1).symm, hb.trans ((Below.refl _ _).alloc hb.size _)⟩
      | false =>
        have HF : Hid (valN false d.data.toList = numZ d.data.toList) := by rw [unhide E2]; rfl
        clear hneg
        go_enter Try.func23, Try.ntmps23
        go_wp2_with fail
        refine (hcut _).mono ?_
        rintro e w' ⟨rfl, rfl⟩
        go_wp2_with fail
        refine (lexDecimals_any _ _).mono ?_
        rintro e w1 ⟨rfl, hb⟩
        go_wp2
        go_loopw [6] (fun n w' => ∃ pos : Nat, w' = w1.iter d pos ∧ pos ≤ d.size ∧ n = .int .i64 (numZ (d.data.toList.take pos))) (fun _ w' => d.size - w'.iterPos w1.heap.size)
        case atStart => exact ⟨0, rfl, Nat.zero_le _, rfl⟩
        case round =>
          obtain ⟨pos, rfl, hle, rfl⟩ := hrel
          obtain ⟨n0, n1⟩ := unhide HB pos hle
          by_cases hp : pos < d.size
          · have hst := numZ_step d pos hp
            have hdg : 48 ≤ (d[pos]'hp).toNat ∧ (d[pos]'hp).toNat ≤ 57 := digit_lo ((List.all_eq_true.1 (unhide HD)) _ (byte_mem d pos hp))
            obtain ⟨g1, g2⟩ := hdg
            have hnx : ∀ ty, (Instr.next (.pointer (some ⟨w1.heap.size, 0, none⟩)) true ty).run Try.prog (w1.iter d pos) = _ := fun ty => run_next_ascii w1 d pos ty hp (by omega)
            have HS := hide hst
            clear hst
            go_wp2
            go_roundw
            case rel => exact ⟨pos + 1, rfl, by omega, by rw [unhide HS]⟩
            case measure => simp; omega
          · have hnx : ∀ ty, (Instr.next (.pointer (some ⟨w1.heap.size, 0, none⟩)) true ty).run Try.prog (w1.iter d pos) = _ := fun ty => run_next_end w1 d pos ty hp
            rw [take_all d pos hp] at n0 n1 ⊢
            go_wp2
            go_ret2
            exact ⟨ret_num (unhide HF).symm (unhide E1).symm, hb.trans ((Below.refl _ _).alloc hb.size _)⟩
end Go.Proofs.Ytkegbdlbaanapaa
