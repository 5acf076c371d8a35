/- The walks of markFaceSigS and markTypeFaceS on rows that may be written. Conditions: the row can be read, and may be written. -/
import Derived.Test.YtkiaidjkhhljhaaMn
namespace Go.Proofs.Ytkiaidjkhhljhaa
open Go.RowKit Go.PlainAid

def mS (s : TS) : Nat := 2 + s.args.length
def mY (s : TY) : Nat := 1 + sm mS s.sigs
set_option maxRecDepth 100000 in
set_option maxHeartbeats 4000000 in
theorem markSigs_any (lo n : Nat) (a : Option Addr) (cap : Nat) (xs : List TS) (k0 : Nat) (w : World) (hS : IsSigs (ShS w lo n) w lo n a xs) (hl : xs.length ≤ maxLen) (hF : Fr w lo n) (hn : n ≤ w.heap.size) (hlo : lo ≤ n) (_h1 : 1 ≤ k0) (hk : k0 + sm mS xs ≤ 100000000000) :
    MkCalls lo n 46 (.slice a xs.length cap) k0 (sm mS xs) w := by
  unfold maxLen at hl
  unfold MkCalls
  have HS := hide hS
  have HF := hide hF
  have HN := hide hn
  have HLO := hide hlo
  clear hS hF hlo hn
  go_enter Try.func46, Try.ntmps46
  go_wp2
  go_loopw [1, 5] (fun kk i wr => ∃ j q : Nat, j ≤ xs.length ∧ i = .int .i64 j ∧ kk = .int .i64 q ∧ k0 ≤ q ∧ Hid (q ≤ k0 + sm mS (xs.take j)) ∧ q ≤ 100000000000 ∧ Hid (Mk lo n w wr)) (fun _ i _ => xs.length - (intOf i).toNat)
  case atStart => exact ⟨0, k0, Nat.zero_le _, rfl, rfl, Nat.le_refl _, hide (Nat.le_add_right _ _), by omega, hide (Mk.refl _ _ _)⟩
  case round =>
    obtain ⟨j, q, hj, rfl, rfl, hq1, HQ, hq3, HM⟩ := hrel
    have HN0 := hide (Nat.le_trans (unhide HN) (unhide HM).size)
    by_cases hp : j < xs.length
    · rcases (unhide HS).ak (unhide HM) (ShS.ak (unhide HM)) with e0 | ⟨b, off, rfl, hbl, hbn, hcs⟩
      · rw [e0] at hp; simp at hp
      obtain ⟨c0, c1, c2, d0, d1, d2, hr⟩ := hcs j hp
      have hs1 := sm_step mS xs j hp
      have hs3 := sm_le mS xs (j + 1)
      generalize xs[j] = e at hr hs1
      obtain ⟨en, args, et⟩ := e
      rw [show mS ⟨en, args, et⟩ = 2 + args.length from rfl] at hs1
      obtain ⟨nm, a', cap', t, hv, hz, hr⟩ := hr
      simp only [Value.agg.injEq, Array.mk.injEq, List.cons.injEq] at hv
      obtain ⟨rfl, rfl, rfl, -⟩ := hv
      dsimp only at hz hr
      have HR := hide hr
      clear hr hz
      have HX1 := hide hs1
      have HX3 := hide hs3
      clear hs1 hs3
      have HFR := hide ((unhide HF).mk (unhide HM))
      have D0 := hide d0
      have D1 := hide d1
      have D2 := hide d2
      clear hcs d0 d1 d2
      have hqq : q + (2 + args.length) ≤ 100000000000 := by have := unhide HQ; have := unhide HX1; have := unhide HX3; omega
      have HQN : Hid (q + (2 + args.length) ≤ k0 + sm mS (xs.take (j + 1))) := hide (by have := unhide HQ; have := unhide HX1; omega)
      go_wp2_with fail
      refine (markText_any (q) (by omega) (by omega) _).mono ?_
      rintro r w1 ⟨rfl, hb1⟩
      have hnW0 := Nat.le_trans (show n ≤ _ from (unhide HN0)) hb1.size
      have HM1 := hide (mk_text hb1 (unhide HN0) (unhide HLO))
      have HN1 := hide hnW0
      clear hb1 hnW0 
      obtain ⟨y1_0, g1_0, z1_0⟩ := (unhide HM1).al _ _ _ hbl hbn (unhide D0)
      obtain ⟨u1_0, rfl⟩ := z1_0.str
      clear z1_0
      have f1_0 := (unhide HFR).mk (unhide HM1) b (off + j * 3) hbl hbn
      have G1_0 := hide g1_0
      obtain ⟨y1_1, g1_1, z1_1⟩ := (unhide HM1).al _ _ _ hbl hbn (unhide D1)
      obtain rfl := z1_1.slice
      clear z1_1
      have G1_1 := hide g1_1
      go_wp2_with fail
      refine (markInts_any lo n a' cap' args.length (q + 1) _ ((unhide HR).ak ((unhide HM1).trans (Mk.set (unhide G1_0) (akS _ _) hbl hbn))) ((unhide HFR).mk ((unhide HM1).trans (Mk.set (unhide G1_0) (akS _ _) hbl hbn))) (by simpa [World.setCell] using unhide HN1) (unhide HLO) (by omega) (by omega)).mono ?_
      rintro r w2 ⟨q2, rfl, ha2, hc2, hm2⟩
      have HN2 := hide (Nat.le_trans (show n ≤ _ from (by simpa [World.setCell] using unhide HN1)) hm2.size)
      have HM2 := hide (((unhide HM1).trans (Mk.set (unhide G1_0) (akS _ _) hbl hbn)).trans hm2)
      clear hm2 g1_0 g1_1 f1_0
      obtain ⟨y2_2, g2_2, z2_2⟩ := (unhide HM2).al _ _ _ hbl hbn (unhide D2)
      obtain ⟨u2_2, rfl⟩ := z2_2.int
      clear z2_2
      have f2_2 := (unhide HFR).mk (unhide HM2) b (off + j * 3 + 2) hbl hbn
      have G2_2 := hide g2_2
      go_wp2
      go_roundw
      case rel =>
        refine ⟨j + 1, q2 + 1, by omega, by go_num, by go_num, by omega, hide ?_, by omega, hide ?_⟩
        · have := unhide HQN; omega
        · refine (unhide HM).trans ?_
          exact ((unhide HM2).trans (Mk.set (unhide G2_2) (akI _ _) hbl hbn))
      case measure => simp [intOf]; omega
    · have HE : Hid (q ≤ k0 + sm mS xs) := hide (by
        have := unhide HQ
        rw [List.take_of_length_le (by omega)] at this
        omega)
      go_wp2
      go_ret
      exact ⟨q, rfl, by omega, unhide HE, unhide HM⟩
set_option maxRecDepth 100000 in
set_option maxHeartbeats 4000000 in
theorem markFaces_any (lo n : Nat) (a : Option Addr) (cap : Nat) (xs : List TY) (k0 : Nat) (w : World) (hS : IsFaces (ShY w lo n) w lo n a xs) (hl : xs.length ≤ maxLen) (hF : Fr w lo n) (hn : n ≤ w.heap.size) (hlo : lo ≤ n) (_h1 : 1 ≤ k0) (hk : k0 + sm mY xs ≤ 100000000000) :
    MkCalls lo n 20 (.slice a xs.length cap) k0 (sm mY xs) w := by
  unfold maxLen at hl
  unfold MkCalls
  have HS := hide hS
  have HF := hide hF
  have HN := hide hn
  have HLO := hide hlo
  clear hS hF hlo hn
  go_enter Try.func20, Try.ntmps20
  go_wp2
  go_loopw [1, 5] (fun kk i wr => ∃ j q : Nat, j ≤ xs.length ∧ i = .int .i64 j ∧ kk = .int .i64 q ∧ k0 ≤ q ∧ Hid (q ≤ k0 + sm mY (xs.take j)) ∧ q ≤ 100000000000 ∧ Hid (Mk lo n w wr)) (fun _ i _ => xs.length - (intOf i).toNat)
  case atStart => exact ⟨0, k0, Nat.zero_le _, rfl, rfl, Nat.le_refl _, hide (Nat.le_add_right _ _), by omega, hide (Mk.refl _ _ _)⟩
  case round =>
    obtain ⟨j, q, hj, rfl, rfl, hq1, HQ, hq3, HM⟩ := hrel
    have HN0 := hide (Nat.le_trans (unhide HN) (unhide HM).size)
    by_cases hp : j < xs.length
    · rcases (unhide HS).ak (unhide HM) (ShY.ak (unhide HM)) with e0 | ⟨b, off, rfl, hbl, hbn, hcs⟩
      · rw [e0] at hp; simp at hp
      obtain ⟨c0, c1, d0, d1, hr⟩ := hcs j hp
      have hs1 := sm_step mY xs j hp
      have hs3 := sm_le mY xs (j + 1)
      generalize xs[j] = e at hr hs1
      obtain ⟨en, sigs⟩ := e
      rw [show mY ⟨en, sigs⟩ = 1 + sm mS sigs from rfl] at hs1
      obtain ⟨nm, a', cap', hv, hz, hr⟩ := hr
      simp only [Value.agg.injEq, Array.mk.injEq, List.cons.injEq] at hv
      obtain ⟨rfl, rfl, -⟩ := hv
      dsimp only at hz hr
      have HZ := hide hz
      have HR := hide hr
      clear hr hz
      have HX1 := hide hs1
      have HX3 := hide hs3
      clear hs1 hs3
      have HFR := hide ((unhide HF).mk (unhide HM))
      have D0 := hide d0
      have D1 := hide d1
      clear hcs d0 d1
      have hqq : q + (1 + sm mS sigs) ≤ 100000000000 := by have := unhide HQ; have := unhide HX1; have := unhide HX3; omega
      have HQN : Hid (q + (1 + sm mS sigs) ≤ k0 + sm mY (xs.take (j + 1))) := hide (by have := unhide HQ; have := unhide HX1; omega)
      go_wp2_with fail
      refine (markText_any (q) (by omega) (by omega) _).mono ?_
      rintro r w1 ⟨rfl, hb1⟩
      have hnW0 := Nat.le_trans (show n ≤ _ from (unhide HN0)) hb1.size
      have HM1 := hide (mk_text hb1 (unhide HN0) (unhide HLO))
      have HN1 := hide hnW0
      clear hb1 hnW0 
      obtain ⟨y1_0, g1_0, z1_0⟩ := (unhide HM1).al _ _ _ hbl hbn (unhide D0)
      obtain ⟨u1_0, rfl⟩ := z1_0.str
      clear z1_0
      have f1_0 := (unhide HFR).mk (unhide HM1) b (off + j * 2) hbl hbn
      have G1_0 := hide g1_0
      obtain ⟨y1_1, g1_1, z1_1⟩ := (unhide HM1).al _ _ _ hbl hbn (unhide D1)
      obtain rfl := z1_1.slice
      clear z1_1
      have G1_1 := hide g1_1
      go_wp2_with fail
      refine (markSigs_any lo n a' cap' sigs (q + 1) _ ((unhide HR).ak ((unhide HM1).trans (Mk.set (unhide G1_0) (akS _ _) hbl hbn)) (ShS.ak ((unhide HM1).trans (Mk.set (unhide G1_0) (akS _ _) hbl hbn)))) (unhide HZ) ((unhide HFR).mk ((unhide HM1).trans (Mk.set (unhide G1_0) (akS _ _) hbl hbn))) (by simpa [World.setCell] using unhide HN1) (unhide HLO) (by omega) (by omega)).mono ?_
      rintro r w2 ⟨q2, rfl, ha2, hc2, hm2⟩
      have HN2 := hide (Nat.le_trans (show n ≤ _ from (by simpa [World.setCell] using unhide HN1)) hm2.size)
      have HM2 := hide (((unhide HM1).trans (Mk.set (unhide G1_0) (akS _ _) hbl hbn)).trans hm2)
      clear hm2 g1_0 g1_1 f1_0
      go_wp2
      go_roundw
      case rel =>
        refine ⟨j + 1, q2, by omega, by go_num, by go_num, by omega, hide ?_, by omega, hide ?_⟩
        · have := unhide HQN; omega
        · refine (unhide HM).trans ?_
          exact (unhide HM2)
      case measure => simp [intOf]; omega
    · have HE : Hid (q ≤ k0 + sm mY xs) := hide (by
        have := unhide HQ
        rw [List.take_of_length_le (by omega)] at this
        omega)
      go_wp2
      go_ret
      exact ⟨q, rfl, by omega, unhide HE, unhide HM⟩
end Go.Proofs.Ytkiaidjkhhljhaa
