/- The walk of markTreeFunS on rows that may be written. Conditions: the row can be read, and may be written. -/
import Derived.Test.YtkiaidjkhhljhaaMn
namespace Go.Proofs.Ytkiaidjkhhljhaa
open Go.RowKit Go.PlainAid

def mF (f : TF) : Nat := 3 + f.args.length * 2 + 4 * f.body.nodes
set_option maxRecDepth 100000 in
set_option maxHeartbeats 4000000 in
theorem markFuns_any (lo n h : Nat) (a : Option Addr) (cap : Nat) (xs : List TF) (k0 : Nat) (w : World) (hS : IsFuns (ShF w lo n h) w lo n a xs) (hl : xs.length ≤ maxLen) (hF : Fr w lo n) (hn : n ≤ w.heap.size) (hlo : lo ≤ n) (_h1 : 1 ≤ k0) (hk : k0 + sm mF xs ≤ 100000000000) :
    MkCalls lo n 43 (.slice a xs.length cap) k0 (sm mF xs) w := by
  unfold maxLen at hl
  unfold MkCalls
  have HS := hide hS
  have HF := hide hF
  have HN := hide hn
  have HLO := hide hlo
  clear hS hF hlo hn
  go_enter Try.func43, Try.ntmps43
  go_wp2
  go_loopw [1, 5] (fun kk i wr => ∃ j q : Nat, j ≤ xs.length ∧ i = .int .i64 j ∧ kk = .int .i64 q ∧ k0 ≤ q ∧ Hid (q ≤ k0 + sm mF (xs.take j)) ∧ q ≤ 100000000000 ∧ Hid (Mk lo n w wr)) (fun _ i _ => xs.length - (intOf i).toNat)
  case atStart => exact ⟨0, k0, Nat.zero_le _, rfl, rfl, Nat.le_refl _, hide (Nat.le_add_right _ _), by omega, hide (Mk.refl _ _ _)⟩
  case round =>
    obtain ⟨j, q, hj, rfl, rfl, hq1, HQ, hq3, HM⟩ := hrel
    have HN0 := hide (Nat.le_trans (unhide HN) (unhide HM).size)
    by_cases hp : j < xs.length
    · rcases (unhide HS).ak (unhide HM) (ShF.ak (unhide HM) h) with e0 | ⟨b, off, rfl, hbl, hbn, hcs⟩
      · rw [e0] at hp; simp at hp
      obtain ⟨c0, c1, c2, c3, c4, c5, c6, c7, c8, d0, d1, d2, d3, d4, d5, d6, d7, d8, hr⟩ := hcs j hp
      have hs1 := sm_step mF xs j hp
      have hs3 := sm_le mF xs (j + 1)
      generalize xs[j] = e at hr hs1
      obtain ⟨en, ep, args, et, body⟩ := e
      obtain ⟨ek, em, en2, ed, kids⟩ := body
      rw [show mF ⟨en, ep, args, et, .node ek em en2 ed kids⟩ = 3 + args.length * 2 + 4 * (1 + nodesL kids) from rfl] at hs1
      obtain ⟨nm, p, a', cap', t, b0, b1, b2, b3, b4, hv, hz, hA, hE⟩ := hr
      rcases h with _ | h
      · exact hE.elim
      obtain ⟨k, m, nm2, md2, a2, cap2, hv2, hz2, hr⟩ := hE
      simp only [Value.agg.injEq, Array.mk.injEq, List.cons.injEq] at hv2
      obtain ⟨rfl, rfl, rfl, rfl, rfl, -⟩ := hv2
      simp only [Value.agg.injEq, Array.mk.injEq, List.cons.injEq] at hv
      obtain ⟨rfl, rfl, rfl, rfl, rfl, rfl, rfl, rfl, rfl, -⟩ := hv
      dsimp only at hz hA
      have HZ2 := hide hz2
      have HR := hide hr
      have HA := hide hA
      clear hr hz hz2 hA
      have HX1 := hide hs1
      have HX3 := hide hs3
      clear hs1 hs3
      have HFR := hide ((unhide HF).mk (unhide HM))
      have D0 := hide d0
      have D1 := hide d1
      have D2 := hide d2
      have D3 := hide d3
      have D4 := hide d4
      have D5 := hide d5
      have D6 := hide d6
      have D7 := hide d7
      have D8 := hide d8
      clear hcs d0 d1 d2 d3 d4 d5 d6 d7 d8
      have hqq : q + (7 + args.length * 2 + 4 * nodesL kids) ≤ 100000000000 := by have := unhide HQ; have := unhide HX1; have := unhide HX3; omega
      have HQN : Hid (q + (7 + args.length * 2 + 4 * nodesL kids) ≤ k0 + sm mF (xs.take (j + 1))) := hide (by have := unhide HQ; have := unhide HX1; omega)
      go_wp2_with fail
      refine (markText_any (q) (by omega) (by omega) _).mono ?_
      rintro r w1 ⟨rfl, hb1⟩
      have hnW0 := Nat.le_trans (show n ≤ _ from (unhide HN0)) hb1.size
      have HM1 := hide (mk_text hb1 (unhide HN0) (unhide HLO))
      have HN1 := hide hnW0
      clear hb1 hnW0 
      obtain ⟨y1_0, g1_0, z1_0⟩ := (unhide HM1).al _ _ _ hbl hbn (unhide D0)
      obtain ⟨u1_0, rfl⟩ := z1_0.str
      clear z1_0
      have f1_0 := (unhide HFR).mk (unhide HM1) b (off + j * 9) hbl hbn
      have G1_0 := hide g1_0
      obtain ⟨y1_1, g1_1, z1_1⟩ := (unhide HM1).al _ _ _ hbl hbn (unhide D1)
      obtain ⟨u1_1, rfl⟩ := z1_1.bool
      clear z1_1
      have f1_1 := (unhide HFR).mk (unhide HM1) b (off + j * 9 + 1) hbl hbn
      have G1_1 := hide g1_1
      obtain ⟨y1_2, g1_2, z1_2⟩ := (unhide HM1).al _ _ _ hbl hbn (unhide D2)
      obtain rfl := z1_2.slice
      clear z1_2
      have G1_2 := hide g1_2
      go_wp2_with fail
      refine (markArgs_any lo n a' cap' args (q + 1 + 1) _ ((unhide HA).ak ((unhide HM1).trans ((Mk.set (unhide G1_0) (akS _ _) hbl hbn).trans (Mk.set ((cell_other _ _ _ _ _ (by omega)).trans (unhide G1_1)) (akB _ _) hbl hbn))) ShA.ak) ((unhide HFR).mk ((unhide HM1).trans ((Mk.set (unhide G1_0) (akS _ _) hbl hbn).trans (Mk.set ((cell_other _ _ _ _ _ (by omega)).trans (unhide G1_1)) (akB _ _) hbl hbn)))) (by simpa [World.setCell] using unhide HN1) (unhide HLO) (by omega) (by omega)).mono ?_
      rintro r w2 ⟨q2, rfl, ha2, hc2, hm2⟩
      have HN2 := hide (Nat.le_trans (show n ≤ _ from (by simpa [World.setCell] using unhide HN1)) hm2.size)
      have HM2 := hide (((unhide HM1).trans ((Mk.set (unhide G1_0) (akS _ _) hbl hbn).trans (Mk.set ((cell_other _ _ _ _ _ (by omega)).trans (unhide G1_1)) (akB _ _) hbl hbn))).trans hm2)
      clear hm2 g1_0 g1_1 g1_2 f1_0 f1_1
      obtain ⟨y2_3, g2_3, z2_3⟩ := (unhide HM2).al _ _ _ hbl hbn (unhide D3)
      obtain ⟨u2_3, rfl⟩ := z2_3.int
      clear z2_3
      have f2_3 := (unhide HFR).mk (unhide HM2) b (off + j * 9 + 3) hbl hbn
      have G2_3 := hide g2_3
      obtain ⟨y2_4, g2_4, z2_4⟩ := (unhide HM2).al _ _ _ hbl hbn (unhide D4)
      obtain ⟨u2_4, rfl⟩ := z2_4.int
      clear z2_4
      have f2_4 := (unhide HFR).mk (unhide HM2) b (off + j * 9 + 4) hbl hbn
      have G2_4 := hide g2_4
      obtain ⟨y2_5, g2_5, z2_5⟩ := (unhide HM2).al _ _ _ hbl hbn (unhide D5)
      obtain ⟨u2_5, rfl⟩ := z2_5.int
      clear z2_5
      have f2_5 := (unhide HFR).mk (unhide HM2) b (off + j * 9 + 5) hbl hbn
      have G2_5 := hide g2_5
      go_wp2_with fail
      refine (markText_any (q2 + 1 + 1 + 1) (by omega) (by omega) _).mono ?_
      rintro r w3 ⟨rfl, hb3⟩
      have hnW2 := Nat.le_trans (show n ≤ _ from (by simpa [World.setCell] using unhide HN2)) hb3.size
      have HM3 := hide (((unhide HM2).trans (((Mk.set (unhide G2_3) (akI _ _) hbl hbn).trans (Mk.set ((cell_other _ _ _ _ _ (by omega)).trans (unhide G2_4)) (akI _ _) hbl hbn)).trans (Mk.set ((cell_other _ _ _ _ _ (by omega)).trans ((cell_other _ _ _ _ _ (by omega)).trans (unhide G2_5))) (akI _ _) hbl hbn))).trans (mk_text hb3 (by simpa [World.setCell] using unhide HN2) (unhide HLO)))
      have HN3 := hide hnW2
      clear hb3 hnW2 g2_3 g2_4 g2_5 f2_3 f2_4 f2_5
      obtain ⟨y3_6, g3_6, z3_6⟩ := (unhide HM3).al _ _ _ hbl hbn (unhide D6)
      obtain ⟨u3_6, rfl⟩ := z3_6.str
      clear z3_6
      have f3_6 := (unhide HFR).mk (unhide HM3) b (off + j * 9 + 6) hbl hbn
      have G3_6 := hide g3_6
      go_wp2_with fail
      refine (markText_any (q2 + 1 + 1 + 1 + 1) (by omega) (by omega) _).mono ?_
      rintro r w4 ⟨rfl, hb4⟩
      have hnW3 := Nat.le_trans (show n ≤ _ from (by simpa [World.setCell] using unhide HN3)) hb4.size
      have HM4 := hide (((unhide HM3).trans (Mk.set (unhide G3_6) (akS _ _) hbl hbn)).trans (mk_text hb4 (by simpa [World.setCell] using unhide HN3) (unhide HLO)))
      have HN4 := hide hnW3
      clear hb4 hnW3 g3_6 f3_6
      obtain ⟨y4_7, g4_7, z4_7⟩ := (unhide HM4).al _ _ _ hbl hbn (unhide D7)
      obtain ⟨u4_7, rfl⟩ := z4_7.str
      clear z4_7
      have f4_7 := (unhide HFR).mk (unhide HM4) b (off + j * 9 + 7) hbl hbn
      have G4_7 := hide g4_7
      obtain ⟨y4_8, g4_8, z4_8⟩ := (unhide HM4).al _ _ _ hbl hbn (unhide D8)
      obtain rfl := z4_8.slice
      clear z4_8
      have G4_8 := hide g4_8
      go_wp2_with fail
      refine (markKids_any lo n h a2 cap2 kids (q2 + 1 + 1 + 1 + 1 + 1) _ ((unhide HR).ak ((unhide HM4).trans (Mk.set (unhide G4_7) (akS _ _) hbl hbn)) (ShE.ak ((unhide HM4).trans (Mk.set (unhide G4_7) (akS _ _) hbl hbn)) h)) (unhide HZ2) ((unhide HFR).mk ((unhide HM4).trans (Mk.set (unhide G4_7) (akS _ _) hbl hbn))) (by simpa [World.setCell] using unhide HN4) (unhide HLO) (by omega) (by omega)).mono ?_
      rintro r w5 ⟨q5, rfl, ha5, hc5, hm5⟩
      have HN5 := hide (Nat.le_trans (show n ≤ _ from (by simpa [World.setCell] using unhide HN4)) hm5.size)
      have HM5 := hide (((unhide HM4).trans (Mk.set (unhide G4_7) (akS _ _) hbl hbn)).trans hm5)
      clear hm5 g4_7 g4_8 f4_7
      go_wp2
      go_roundw
      case rel =>
        refine ⟨j + 1, q5, by omega, by go_num, by go_num, by omega, hide ?_, by omega, hide ?_⟩
        · have := unhide HQN; omega
        · refine (unhide HM).trans ?_
          exact (unhide HM5)
      case measure => simp [intOf]; omega
    · have HE : Hid (q ≤ k0 + sm mF xs) := hide (by
        have := unhide HQ
        rw [List.take_of_length_le (by omega)] at this
        omega)
      go_wp2
      go_ret
      exact ⟨q, rfl, by omega, unhide HE, unhide HM⟩
end Go.Proofs.Ytkiaidjkhhljhaa
