/- The walks of szStringS, toStringS and eqStringS. Conditions: the slices can be read. -/
import Derived.Test.YtkegbdlbaanapaaWh
import Derived.Deep.QuietTactic
import Derived.BigQuiet
namespace Go.Proofs.Ytkegbdlbaanapaa
open Go.RowKit Go.PlainAid

def szs (ws : List ByteArray) : Nat := (ws.map ByteArray.size).sum
theorem szs_step (ws : List ByteArray) (k : Nat) (h : k < ws.length) : szs (ws.take (k + 1)) = szs (ws.take k) + ws[k].size := by
  rw [List.take_succ_eq_append_getElem h]; unfold szs; rw [List.map_append, List.sum_append]; simp
theorem szs_le (ws : List ByteArray) : ∀ k, szs (ws.take k) ≤ szs ws := by
  intro k
  have : szs ws = szs (ws.take k) + szs (ws.drop k) := by
    unfold szs
    conv => lhs; rw [← List.take_append_drop k ws]
    rw [List.map_append, List.sum_append]
  omega
theorem total_eq (ws : List ByteArray) : total ws = szs ws + ws.length := by
  induction ws with
  | nil => rfl
  | cons a t ih =>
    have h1 : total (a :: t) = a.size + 1 + total t := by unfold total; simp
    have h2 : szs (a :: t) = a.size + szs t := by unfold szs; simp
    rw [h1, h2, List.length_cons]; omega

set_option maxHeartbeats 1000000 in
theorem szStringS_any (a : Option Addr) (cap : Nat) (ws : List ByteArray) (w : World) (h : Words w w.heap.size a ws) (hl : ws.length ≤ maxLen) (hs : ∀ x ∈ ws, x.size ≤ maxLen) :
    Calls Try.prog 29 #[.slice a ws.length cap, .int .i64 1048576] w fun e w' => (∃ i : Int, e = .returned (.int .i64 i) ∧ ((total ws ≤ 1048576 ∧ 0 ≤ i) ∨ (1048576 < total ws ∧ i < 0))) ∧ w = w' := by
  have HE := hide (total_eq ws)
  have HW := hide h
  have HS := hide hs
  unfold maxLen at hl
  clear h hs
  by_cases hbig : 1048576 < ws.length
  · go_enter Try.func29, Try.ntmps29
    go_wp2
    go_ret
    exact ⟨⟨_, rfl, .inr ⟨by rw [unhide HE]; omega, by omega⟩⟩, rfl⟩
  · go_enter Try.func29, Try.ntmps29
    go_wp2
    go_loop [1, 5] (fun l i => ∃ k : Nat, k ≤ ws.length ∧ i = .int .i64 k ∧ ∃ r : Int, l = .int .i64 r ∧ 0 ≤ r ∧ r ≤ 1048576 ∧ Hid (r = 1048576 - ws.length - szs (ws.take k))) (fun _ i => ws.length - (intOf i).toNat)
    case atStart => exact ⟨0, Nat.zero_le _, rfl, _, rfl, by omega, by omega, hide (by simp [szs])⟩
    case round =>
      obtain ⟨k, hk, rfl, r, rfl, hr0, hr1, HR⟩ := hrel
      by_cases hp : k < ws.length
      · rcases unhide HW with h | ⟨b, off, rfl, hb, hc⟩
        · rw [h] at hp; simp at hp
        have hck := hc k hp
        have hsz := unhide HS _ (List.getElem_mem hp)
        have HST := hide (szs_step ws k hp)
        obtain ⟨x, hx⟩ : ∃ x, ws[k]'hp = x := ⟨_, rfl⟩
        rw [hx] at hck hsz HST
        unfold maxLen at hsz
        clear hc hx
        by_cases hneg : r - (x.size : Int) < 0
        · have HN : Hid (1048576 < total ws) := hide (by
            have h1 := unhide HR
            have h2 := unhide HST
            have h3 := szs_le ws (k + 1)
            rw [unhide HE]
            omega)
          go_wp2
          go_ret
          exact ⟨⟨_, rfl, .inr ⟨unhide HN, by omega⟩⟩, rfl⟩
        · go_wp2
          go_round
          case rel => exact ⟨k + 1, by omega, by go_num, _, rfl, by omega, by omega, hide (by rw [unhide HST, unhide HR]; omega)⟩
          case measure => simp [intOf]; omega
      · have HF : Hid (total ws ≤ 1048576) := hide (by
          have h1 := unhide HR
          rw [List.take_of_length_le (by omega)] at h1
          rw [unhide HE]; omega)
        go_wp2
        go_ret
        exact ⟨⟨_, rfl, .inl ⟨unhide HF, hr0⟩⟩, rfl⟩
end Go.Proofs.Ytkegbdlbaanapaa
