/- The walks of markTreeArgS, markIntS and markStringS on rows that may be written. Conditions: the row can be read, and may be written. -/
import Derived.Test.YtkiaidjkhhljhaaMl
namespace Go.Proofs.Ytkiaidjkhhljhaa
open Go.RowKit Go.PlainAid

theorem mk_text {lo n : Nat} {w w' : World} (h : Below w.heap.size w w') (hn : n ≤ w.heap.size) (hl : lo ≤ n) : Mk lo n w w' := Mk.below h hn (Nat.le_trans hl hn)
theorem akI (i j : Int) : Ak (.int .i64 i) (.int .i64 j) := .inr (.inl ⟨_, _, rfl, rfl⟩)
theorem akS (i j : ByteArray) : Ak (.string i) (.string j) := .inr (.inr (.inl ⟨_, _, rfl, rfl⟩))
theorem akB (i j : Bool) : Ak (.bool i) (.bool j) := .inr (.inr (.inr ⟨_, _, rfl, rfl⟩))

set_option maxRecDepth 100000 in
set_option maxHeartbeats 2000000 in
theorem markArgs_any (lo n : Nat) (a : Option Addr) (cap : Nat) (xs : List TA) (k0 : Nat) (w : World) (hS : IsArgs ShA w lo n a xs) (hF : Fr w lo n) (hn : n ≤ w.heap.size) (hlo : lo ≤ n) (h1 : 1 ≤ k0) (hk : k0 + xs.length * 2 ≤ 100000000000) :
    MkCalls lo n 61 (.slice a xs.length cap) k0 (xs.length * 2) w := by
  unfold MkCalls
  have HS := hide hS
  have HF := hide hF
  have HN := hide hn
  have HLO := hide hlo
  clear hS hF hlo hn
  go_enter Try.func61, Try.ntmps61
  go_wp2
  go_loopw [1, 5] (fun kk i wr => ∃ j q : Nat, j ≤ xs.length ∧ i = .int .i64 j ∧ kk = .int .i64 q ∧ k0 ≤ q ∧ q ≤ k0 + j * 2 ∧ Hid (Mk lo n w wr)) (fun _ i _ => xs.length - (intOf i).toNat)
  case atStart => exact ⟨0, k0, Nat.zero_le _, rfl, rfl, Nat.le_refl _, by omega, hide (Mk.refl _ _ _)⟩
  case round =>
    obtain ⟨j, q, hj, rfl, rfl, hq1, hq2, HM⟩ := hrel
    have HNR := hide (Nat.le_trans (unhide HN) (unhide HM).size)
    by_cases hp : j < xs.length
    · rcases (unhide HS).ak (unhide HM) ShA.ak with e0 | ⟨b, off, rfl, hbl, hbn, hcs⟩
      · rw [e0] at hp; simp at hp
      obtain ⟨c0, c1, d0, d1, nm, t, hv⟩ := hcs j hp
      simp only [Value.agg.injEq, Array.mk.injEq, List.cons.injEq] at hv
      obtain ⟨rfl, rfl, -⟩ := hv
      have HFR := hide ((unhide HF).mk (unhide HM))
      have D0 := hide d0
      have D1 := hide d1
      clear hcs d0 d1
      go_wp2_with fail
      refine (markText_any q (by omega) (by omega) _).mono ?_
      rintro r w1 ⟨rfl, hb1⟩
      have m1 := mk_text hb1 (unhide HNR) (unhide HLO)
      have HN1 := hide (Nat.le_trans (unhide HNR) hb1.size)
      have HM1 := hide m1
      clear m1 hb1
      obtain ⟨y0, g0, z0⟩ := (unhide HM1).al _ _ _ hbl hbn (unhide D0)
      obtain ⟨u0, rfl⟩ := z0.str
      obtain ⟨y1, g1, z1⟩ := (unhide HM1).al _ _ _ hbl hbn (unhide D1)
      obtain ⟨u1, rfl⟩ := z1.int
      have f0 := (unhide HFR).mk (unhide HM1) b (off + j * 2) hbl hbn
      have f1 := (unhide HFR).mk (unhide HM1) b (off + j * 2 + 1) hbl hbn
      have G0 := hide g0
      have G1 := hide g1
      clear z0 z1
      go_wp2
      go_roundw
      case rel =>
        refine ⟨j + 1, q + 1 + 1, by omega, by go_num, by go_num, by omega, by omega, hide ?_⟩
        refine (unhide HM).trans ((unhide HM1).trans ((Mk.set (unhide G0) (akS _ _) hbl hbn).trans (Mk.set ((cell_other _ _ _ _ _ (by omega)).trans (unhide G1)) (akI _ _) hbl hbn)))
      case measure => simp [intOf]; omega
    · go_wp2
      go_ret
      exact ⟨q, rfl, by omega, by omega, unhide HM⟩
end Go.Proofs.Ytkiaidjkhhljhaa
