/- The walk of wlWhole. Conditions: the slice can be read. -/
import Derived.Test.YtkegbdlbaanapaaWk
import Derived.Test.YtkegbdlbaanapaaPlainJ
namespace Go.Proofs.Ytkegbdlbaanapaa
open Go.RowKit Go.PlainAid

theorem ok_low {n : Nat} {c : UInt8} (h : c.toNat ≤ 32) : okByte n c = false := by
  unfold okByte; rw [decide_eq_false (p := 33 ≤ c.toNat) (by omega)]; rfl
theorem ok_high {n : Nat} {c : UInt8} (h : 126 < c.toNat) : okByte n c = false := by
  unfold okByte; rw [decide_eq_false (p := c.toNat ≤ 126) (by omega)]; simp
theorem ok_br {n : Nat} {c : UInt8} (h : 1 < n) (hb : bracket c = true) : okByte n c = false := by
  unfold okByte; rw [decide_eq_true (p := 1 < n) h, hb]; simp
theorem ok_yes {n : Nat} {c : UInt8} (h1 : ¬ c.toNat ≤ 32) (h2 : ¬ 126 < c.toNat) (hb : ¬ 1 < n ∨ bracket c = false) : okByte n c = true := by
  unfold okByte
  rw [decide_eq_true (p := 33 ≤ c.toNat) (by omega), decide_eq_true (p := c.toNat ≤ 126) (by omega)]
  rcases hb with h | h
  · rw [decide_eq_false (p := 1 < n) h]; rfl
  · rw [h]; simp
theorem whole_bad (x : ByteArray) (j : Nat) (h : j < x.size) (hb : okByte x.size (x[j]'h) = false) : whole x.data.toList = false := by
  unfold whole
  rw [← size_len, all_bad x (okByte x.size) j h hb]; simp
theorem wholes_bad (ws : List ByteArray) (k : Nat) (h : k < ws.length) (hb : whole (ws[k]'h).data.toList = false) : wholes ws = false := by
  unfold wholes
  rw [List.all_eq_false]
  exact ⟨_, List.getElem_mem h, by rw [hb]; simp⟩
theorem wholes_snoc (ws : List ByteArray) (k : Nat) (h : k < ws.length) : wholes (ws.take (k + 1)) = (wholes (ws.take k) && whole (ws[k]'h).data.toList) := by
  unfold wholes
  rw [List.take_succ_eq_append_getElem h, List.all_append]; simp
theorem empty_of {x : ByteArray} (h : x.size = 0) : x.toList = [] := by
  rw [ByteArray.toList_eq]
  rw [size_len] at h
  exact List.length_eq_zero_iff.1 h

set_option maxHeartbeats 1000000 in
theorem wlWhole_any (a : Option Addr) (cap : Nat) (ws : List ByteArray) (w : World) (h : Words w w.heap.size a ws) (ht : total ws ≤ 1048576) :
    Calls Try.prog 14 #[.slice a ws.length cap] w fun e w' => e = .returned (.bool (wholes ws)) ∧ w = w' := by
  have hlen := total_len ws
  have hbig : ws.length ≤ 1048576 := by omega
  have HT := hide ht
  have HW := hide h
  clear h ht hlen
  go_enter Try.func14, Try.ntmps14
  go_wp2
  go_loop [3, 4] (fun i _ => ∃ k : Nat, k ≤ ws.length ∧ i = .int .i64 k ∧ Hid (wholes (ws.take k) = true)) (fun i _ => ws.length - (intOf i).toNat)
  case atStart => exact ⟨0, Nat.zero_le _, rfl, hide rfl⟩
  case round =>
    obtain ⟨k, hk, rfl, HA⟩ := hrel
    by_cases hp : k < ws.length
    · rcases unhide HW with h | ⟨b, off, rfl, hb, hc⟩
      · rw [h] at hp; simp at hp
      have hck := hc k hp
      have hsz : (ws[k]'hp).size ≤ 1048576 := by
        have h1 := total_step ws k hp
        have h2 := total_le ws (k + 1)
        have h3 := unhide HT
        omega
      have HNO : Hid (whole (ws[k]'hp).data.toList = false → wholes ws = false) := hide (wholes_bad ws k hp)
      have HYES : Hid (whole (ws[k]'hp).data.toList = true → wholes (ws.take (k + 1)) = true) := hide (fun h => by rw [wholes_snoc ws k hp, unhide HA, h]; rfl)
      obtain ⟨x, hx⟩ : ∃ x, ws[k]'hp = x := ⟨_, rfl⟩
      rw [hx] at hck hsz HNO HYES
      clear hx hc HA
      go_wp2
      go_loop [5] (fun i => ∃ j : Nat, j ≤ x.size ∧ i = .int .i64 j ∧ Hid ((x.data.toList.take j).all (okByte x.size) = true)) (fun i => x.size - (intOf i).toNat)
      case atStart => exact ⟨0, Nat.zero_le _, rfl, hide rfl⟩
      case round =>
        obtain ⟨j, hj, rfl, HJ⟩ := hrel
        by_cases hq : j < x.size
        · have HB := hide (fun hb => unhide HNO (whole_bad x j hq hb))
          have HG : Hid (okByte x.size (x[j]'hq) = true → (x.data.toList.take (j + 1)).all (okByte x.size) = true) := hide (fun h => by rw [all_snoc x (okByte x.size) j hq, unhide HJ, h]; rfl)
          have HRI := hide (bracket_iff (x[j]'hq))
          by_cases h1 : (x[j]'hq).toNat ≤ 32
          · have HF := hide (unhide HB (ok_low h1))
            go_wp2
            go_ret
            exact ⟨ret_bool (unhide HF).symm, rfl⟩
          by_cases h2 : 126 < (x[j]'hq).toNat
          · have HF := hide (unhide HB (ok_high h2))
            go_wp2
            go_ret
            exact ⟨ret_bool (unhide HF).symm, rfl⟩
          by_cases h3 : 1 < x.size
          · cases h40 : (((x[j]'hq).toNat : Int) == 40) with
            | true =>
              have HF := hide (unhide HB (ok_br h3 (by rw [unhide HRI, h40]; rfl)))
              go_wp2
              go_ret
              exact ⟨ret_bool (unhide HF).symm, rfl⟩
            | false =>
              cases h41 : (((x[j]'hq).toNat : Int) == 41) with
              | true =>
                have HF := hide (unhide HB (ok_br h3 (by rw [unhide HRI, h41]; simp)))
                go_wp2
                go_ret
                exact ⟨ret_bool (unhide HF).symm, rfl⟩
              | false =>
                have HN := hide (unhide HG (ok_yes h1 h2 (.inr (by rw [unhide HRI, h40, h41]; rfl))))
                go_wp2
                go_round
                case rel => exact ⟨j + 1, by omega, by go_num, HN⟩
                case measure => simp [intOf]; omega
          · have HN := hide (unhide HG (ok_yes h1 h2 (.inl h3)))
            go_wp2
            go_round
            case rel => exact ⟨j + 1, by omega, by go_num, HN⟩
            case measure => simp [intOf]; omega
        · have HE : Hid (x.data.toList.all (okByte x.size) = true) := hide (by rw [← all_end x (okByte x.size) j hq]; exact unhide HJ)
          by_cases h0 : x.size = 0
          · have he : (x.toList == []) = true := by rw [empty_of h0]; rfl
            have HF := hide (unhide HNO (by unfold whole; rw [← ByteArray.toList_eq, empty_of h0]; rfl))
            go_wp2
            go_ret
            exact ⟨ret_bool (unhide HF).symm, rfl⟩
          · have he : (x.toList == []) = false := by
              rw [beq_eq_false_iff_ne]
              intro e
              rw [ByteArray.toList_eq] at e
              rw [size_len, e] at h0
              exact h0 rfl
            have HN := hide (unhide HYES (by
              unfold whole
              rw [← size_len, unhide HE]
              have e : x.data.toList ≠ [] := by
                intro e
                rw [size_len, e] at h0
                exact h0 rfl
              cases hl : x.data.toList with
              | nil => exact absurd hl e
              | cons a t => rfl))
            go_wp2
            go_round
            case rel => exact ⟨k + 1, by omega, by go_num, HN⟩
            case measure => simp [intOf]; omega
    · have HF : Hid (wholes ws = true) := hide (by
        have e : ws.take k = ws := List.take_of_length_le (by omega)
        rw [← e]; exact unhide HA)
      go_wp2
      go_ret
      exact ⟨ret_bool (unhide HF).symm, rfl⟩
end Go.Proofs.Ytkegbdlbaanapaa
