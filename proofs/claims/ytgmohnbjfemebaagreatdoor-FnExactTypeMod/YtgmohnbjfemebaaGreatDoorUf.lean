/- The walk of spec.l2Uses. Conditions: the row can be read. -/
import Derived.Test.YtgmohnbjfemebaaGreatDoorUc
import Derived.Test.YtgmohnbjfemebaaGreatDoorWb
namespace Go.Proofs.YtgmohnbjfemebaaGreatDoor
open Go.RowKit Go.PlainAid

set_option maxHeartbeats 1000000 in
theorem l2Uses_any (lo : Nat) (a : Option Addr) (cap : Nat) (ws : List ByteArray) (w : World) (h : IsWds w lo w.heap.size a ws) (hl : ws.length ≤ maxLen) :
    Calls Tryz.prog 79 #[.slice a ws.length cap] w fun r w' => r = .returned (.bool (namesB ws)) ∧ Below w.heap.size w w' := by
  unfold maxLen at hl
  have HW := hide h
  clear h
  go_enter Tryz.func79, Tryz.ntmps79
  go_wp2
  go_loopw [3] (fun i wr => ∃ k : Nat, k ≤ ws.length ∧ i = .int .i64 k ∧ Hid (namesB ws = namesFrom (ws.take k) (ws.drop k)) ∧ Hid (Below w.heap.size w wr)) (fun i _ => ws.length - (intOf i).toNat)
  case atStart => exact ⟨0, Nat.zero_le _, rfl, hide rfl, hide (Below.refl _ _)⟩
  case round =>
    obtain ⟨k, hk, rfl, HN, HB⟩ := hrel
    by_cases hp : k < ws.length
    · have hna := names_at ws k hp
      rcases (unhide HW).kept (unhide HB) (unhide HB).size with hq | ⟨b, off, rfl, hbl, hbn, hc⟩
      · rw [hq] at hp; simp at hp
      have hck := hc k hp
      obtain ⟨x, hx⟩ : ∃ x, ws[k]'hp = x := ⟨_, rfl⟩
      rw [hx] at hck hna
      have HC := hide hc
      have HA := hide hna
      clear hc hx hna
      go_wp2_with fail
      refine (LexNameS_any _ _).mono ?_
      rintro r w2 ⟨rfl, hb2⟩
      have HB2 := hide ((unhide HB).trans (hb2.mono (unhide HB).size))
      have HC2 : Hid (∀ j (hj : j < ws.length), w2.cell? ⟨b, off + j, none⟩ = some (.string ws[j])) := hide (fun j hj => (hb2.cell (p := ⟨b, off + j, none⟩) hbn).trans (unhide HC j hj))
      have hck2 := (hb2.cell (p := ⟨b, off + k, none⟩) hbn).trans hck
      clear hb2 hck HC HB
      cases hn : nameB x.data.toList with
      | false =>
        have HF : Hid (namesB ws = false) := hide (by rw [unhide HN, unhide HA, hn]; rfl)
        go_wp2
        go_ret
        exact ⟨ret_bool (unhide HF).symm, unhide HB2⟩
      | true =>
        have HA2 : Hid (namesB ws = (!hasB (ws.take k) x && namesFrom (ws.take (k + 1)) (ws.drop (k + 1)))) := hide (by rw [unhide HN, unhide HA, hn]; rfl)
        clear HN HA
        go_wp2
        go_loopw [4] (fun i wr => ∃ j n : Nat, j ≤ k ∧ i = .int .i64 j ∧ Hid (hasB (ws.take j) x = false) ∧ wr = w2.drewN n) (fun i _ => k - (intOf i).toNat)
        case atStart => exact ⟨0, 0, Nat.zero_le _, rfl, hide rfl, rfl⟩
        case round =>
          obtain ⟨j, n, hj, rfl, HH, rfl⟩ := hrel
          by_cases hjk : j < k
          · have hjl : j < ws.length := by omega
            have hcj := unhide HC2 j hjl
            have hst := has_take ws x j hjl
            have hmo := has_more ws x j k hjk hjl
            obtain ⟨y, hy⟩ : ∃ y, ws[j]'hjl = y := ⟨_, rfl⟩
            rw [hy] at hcj hst hmo
            have HST := hide hst
            have HMO := hide hmo
            clear hst hmo hy
            cases he : (y.toList == x.toList) with
            | true =>
              have HF : Hid (namesB ws = false) := hide (by rw [unhide HA2, unhide HMO he]; rfl)
              go_wp2
              go_quiet (fail)
              go_wp2
              go_ret
              exact ⟨ret_bool (unhide HF).symm, below_drewN (below_drewN (unhide HB2) _) _⟩
            | false =>
              have HH2 : Hid (hasB (ws.take (j + 1)) x = false) := hide (by rw [unhide HST, unhide HH, he]; rfl)
              go_wp2
              go_quiet (fail)
              go_wp2
              go_roundw
              case rel => exact ⟨j + 1, _, by omega, by go_num, HH2, rfl⟩
              case measure => simp [intOf]; omega
          · have HN3 : Hid (namesB ws = namesFrom (ws.take (k + 1)) (ws.drop (k + 1))) := hide (by
              have e : j = k := by omega
              have := unhide HH
              rw [e] at this
              rw [unhide HA2, this]; rfl)
            go_wp2
            go_roundw
            case rel => exact ⟨k + 1, by omega, by go_num, HN3, hide (below_drewN (unhide HB2) _)⟩
            case measure => simp [intOf]; omega
    · have HF : Hid (namesB ws = true) := hide (by rw [unhide HN, List.drop_of_length_le (by omega)]; simp [namesFrom])
      go_wp2
      go_ret
      exact ⟨ret_bool (unhide HF).symm, unhide HB⟩
end Go.Proofs.YtgmohnbjfemebaaGreatDoor
