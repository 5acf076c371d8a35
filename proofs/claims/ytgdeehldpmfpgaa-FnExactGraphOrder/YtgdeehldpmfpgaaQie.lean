/- The walk of slices.Contains at words. Conditions: the row can be read. -/
import Derived.Test.YtgdeehldpmfpgaaQid
import Derived.Test.YtgdeehldpmfpgaaCl
namespace Go.Proofs.Ytgdeehldpmfpgaa
open Go.RowKit Go.PlainAid

theorem idxW_has (ws : List ByteArray) (x : ByteArray) : decide (0 ≤ idxW ws x) = hasW ws x := by
  unfold idxW hasW
  cases h : ws.findIdx? (fun y => y.toList == x.toList) with
  | none =>
    rw [List.findIdx?_eq_none_iff] at h
    have : ws.any (fun y => y.toList == x.toList) = false := by
      rw [List.any_eq_false]
      intro y hy
      simpa using h y hy
    rw [this]
    simp
  | some i =>
    have := (List.findIdx?_isSome (xs := ws) (p := fun y => y.toList == x.toList)).symm.trans (by rw [h])
    rw [this]
    simp
set_option maxHeartbeats 1000000 in
theorem containsW_any (lo : Nat) (a : Option Addr) (cap : Nat) (ws : List ByteArray) (x : ByteArray) (w : World) (h : IsWds w lo w.heap.size a ws) (hl : ws.length ≤ maxLen) :
    Calls Try.prog 36 #[.slice a ws.length cap, .string x] w fun r w' => r = .returned (.bool (hasW ws x)) ∧ Below w.heap.size w w' := by
  have HI := hide (indexW_any lo a cap ws x w h hl)
  have HR := hide (idxW_has ws x)
  obtain ⟨R, hR⟩ : ∃ R, idxW ws x = R := ⟨_, rfl⟩
  rw [hR] at HI HR
  clear h hR
  go_enter Try.func36, Try.ntmps36
  go_wp2_with fail
  refine (unhide HI).mono ?_
  rintro r w2 ⟨rfl, hb⟩
  go_wp2
  go_ret
  exact ⟨ret_bool (unhide HR), hb⟩
end Go.Proofs.Ytgdeehldpmfpgaa
