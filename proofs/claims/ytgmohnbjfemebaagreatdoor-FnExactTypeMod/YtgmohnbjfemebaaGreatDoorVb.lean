/- The walks of slices.Index, slices.Contains and impl.treeNamesOk. Conditions: the row can be read. -/
import Derived.Test.YtgmohnbjfemebaaGreatDoorUi
namespace Go.Proofs.YtgmohnbjfemebaaGreatDoor
open Go.RowKit Go.PlainAid

set_option maxHeartbeats 1000000 in
theorem index_any (lo : Nat) (a : Option Addr) (cap : Nat) (ws : List ByteArray) (x : ByteArray) (w : World) (h : IsWds w lo w.heap.size a ws) (hl : ws.length ≤ maxLen) :
    Calls Tryz.prog 131 #[.slice a ws.length cap, .string x] w fun r w' => (∃ i : Int, r = .returned (.int .i64 i) ∧ decide (0 ≤ i) = hasB ws x) ∧ Below w.heap.size w w' := by
  unfold maxLen at hl
  have HW := hide h
  clear h
  go_enter Tryz.func131, Tryz.ntmps131
  go_wp2
  go_loop [8] (fun i => ∃ k : Nat, k ≤ ws.length ∧ i = .int .i64 k ∧ Hid (hasB (ws.take k) x = false)) (fun i => ws.length - (intOf i).toNat)
  case atStart => exact ⟨0, Nat.zero_le _, rfl, hide rfl⟩
  case round =>
    obtain ⟨k, hk, rfl, HN⟩ := hrel
    by_cases hp : k < ws.length
    · rcases (unhide HW) with hq | ⟨b, off, rfl, hbl, hbn, hc⟩
      · rw [hq] at hp; simp at hp
      have hck := hc k hp
      have hst := has_take ws x k hp
      have hmo := has_more ws x k ws.length hp hp
      rw [List.take_of_length_le (Nat.le_refl _)] at hmo
      obtain ⟨y, hy⟩ : ∃ y, ws[k]'hp = y := ⟨_, rfl⟩
      rw [hy] at hck hst hmo
      have sy : (y.toList == x.toList) = (x.toList == y.toList) := by rw [Bool.eq_iff_iff]; simp; exact eq_comm
      rw [sy] at hst hmo
      have HST := hide hst
      have HMO := hide hmo
      clear hst hmo hy hc sy
      cases he : (x.toList == y.toList) with
      | true =>
        have HF := hide (unhide HMO he)
        go_wp2
        go_ret
        exact ⟨⟨_, rfl, by rw [unhide HF]; exact decide_eq_true (by omega)⟩, Below.refl _ _⟩
      | false =>
        have HH : Hid (hasB (ws.take (k + 1)) x = false) := hide (by rw [unhide HST, unhide HN, he]; rfl)
        go_wp2
        go_round
        case rel => exact ⟨k + 1, by omega, by go_num, HH⟩
        case measure => simp [intOf]; omega
    · have HF : Hid (hasB ws x = false) := hide (by
        have := unhide HN
        rw [List.take_of_length_le (by omega)] at this
        exact this)
      go_wp2
      go_ret
      exact ⟨⟨_, rfl, by rw [unhide HF]; rfl⟩, Below.refl _ _⟩
set_option maxHeartbeats 1000000 in
theorem contains_any (lo : Nat) (a : Option Addr) (cap : Nat) (ws : List ByteArray) (x : ByteArray) (w : World) (h : IsWds w lo w.heap.size a ws) (hl : ws.length ≤ maxLen) :
    Calls Tryz.prog 106 #[.slice a ws.length cap, .string x] w fun r w' => r = .returned (.bool (hasB ws x)) ∧ Below w.heap.size w w' := by
  have H := hide (index_any lo a cap ws x w h hl)
  clear h hl
  go_enter Tryz.func106, Tryz.ntmps106
  go_wp2_with fail
  refine (unhide H).mono ?_
  rintro r w2 ⟨⟨i, rfl, hi⟩, hb⟩
  have HI := hide hi
  clear hi
  go_wp2
  go_ret
  exact ⟨ret_bool (unhide HI), hb⟩
set_option maxHeartbeats 1000000 in
theorem namesOk_any (lo : Nat) (a : Option Addr) (cap : Nat) (ws : List ByteArray) (w : World) (h : IsWds w lo w.heap.size a ws) (hl : ws.length ≤ maxLen) (hcap : ws.length ≤ cap) :
    Calls Tryz.prog 68 #[.slice a ws.length cap] w fun r w' => r = .returned (.bool (namesB ws)) ∧ Below w.heap.size w w' := by
  unfold maxLen at hl
  have HW := hide h
  clear h
  go_enter Tryz.func68, Tryz.ntmps68
  go_wp2
  go_loopw [7] (fun i wr => ∃ k : Nat, k ≤ ws.length ∧ i = .int .i64 k ∧ Hid (namesB ws = namesFrom (ws.take k) (ws.drop k)) ∧ Hid (Below w.heap.size w wr)) (fun i _ => ws.length - (intOf i).toNat)
  case atStart => exact ⟨0, Nat.zero_le _, rfl, hide rfl, hide (Below.refl _ _)⟩
  case round =>
    obtain ⟨k, hk, rfl, HN, HB⟩ := hrel
    by_cases hp : k < ws.length
    · have hna := names_at ws k hp
      rcases (unhide HW).kept (unhide HB) (unhide HB).size with hq | ⟨b, off, rfl, hbl, hbn, hc⟩
      · rw [hq] at hp; simp at hp
      have hck := hc k hp
      obtain ⟨x, hx⟩ : ∃ x, ws[k]'hp = x := ⟨_, rfl⟩
      rw [hx] at hck hna
      have htl : (ws.take k).length = k := by rw [List.length_take]; omega
      have HT : Hid (IsWds wr lo wr.heap.size (some ⟨b, off, none⟩) (ws.take k)) := hide (.inr ⟨b, off, rfl, hbl, hbn, fun j hj => by
        rw [List.getElem_take]; exact hc j (by omega)⟩)
      have HTL := hide htl
      have HA := hide hna
      clear hc hx hna htl
      go_wp2_with fail
      refine (LexNameI_any _ _).mono ?_
      rintro r w2 ⟨rfl, hb2⟩
      have HB2 := hide ((unhide HB).trans (hb2.mono (unhide HB).size))
      have HT2 := hide ((unhide HT).kept hb2 hb2.size)
      clear hb2 hck HB HT
      cases hn : nameB x.data.toList with
      | false =>
        have HF : Hid (namesB ws = false) := hide (by rw [unhide HN, unhide HA, hn]; rfl)
        go_wp2
        go_ret
        exact ⟨ret_bool (unhide HF).symm, unhide HB2⟩
      | true =>
        have HA2 : Hid (namesB ws = (!hasB (ws.take k) x && namesFrom (ws.take (k + 1)) (ws.drop (k + 1)))) := hide (by rw [unhide HN, unhide HA, hn]; rfl)
        have HC := contains_any lo (some ⟨b, off, none⟩) cap (ws.take k) x w2 (unhide HT2) (by rw [unhide HTL]; unfold maxLen; omega)
        rw [unhide HTL] at HC
        have HCC := hide HC
        clear HN HA HC
        go_wp2_with fail
        refine (unhide HCC).mono ?_
        rintro r w3 ⟨rfl, hb3⟩
        have HB3 := hide ((unhide HB2).trans (hb3.mono (unhide HB2).size))
        clear hb3 HB2 HCC HT2
        cases hh : hasB (ws.take k) x with
        | true =>
          have HF : Hid (namesB ws = false) := hide (by rw [unhide HA2, hh]; rfl)
          go_wp2
          go_ret
          exact ⟨ret_bool (unhide HF).symm, unhide HB3⟩
        | false =>
          have HN3 : Hid (namesB ws = namesFrom (ws.take (k + 1)) (ws.drop (k + 1))) := hide (by rw [unhide HA2, hh]; rfl)
          go_wp2
          go_roundw
          case rel => exact ⟨k + 1, by omega, by go_num, HN3, HB3⟩
          case measure => simp [intOf]; omega
    · have HF : Hid (namesB ws = true) := hide (by rw [unhide HN, List.drop_of_length_le (by omega)]; simp [namesFrom])
      go_wp2
      go_ret
      exact ⟨ret_bool (unhide HF).symm, unhide HB⟩
end Go.Proofs.YtgmohnbjfemebaaGreatDoor
