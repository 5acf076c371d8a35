/- The walks of markIntS, markStringS and markTreeExprS on rows that may be written. Conditions: the row can be read, and may be written. -/
import Derived.Test.YtkiaidjkhhljhaaMm
namespace Go.Proofs.Ytkiaidjkhhljhaa
open Go.RowKit Go.PlainAid

set_option maxRecDepth 100000 in
set_option maxHeartbeats 4000000 in
theorem markInts_any (lo n : Nat) (a : Option Addr) (cap m : Nat) (k0 : Nat) (w : World) (hS : ShI w lo n a m) (hF : Fr w lo n) (hn : n ≤ w.heap.size) (hlo : lo ≤ n) (_h1 : 1 ≤ k0) (hk : k0 + m ≤ 100000000000) :
    MkCalls lo n 8 (.slice a m cap) k0 m w := by
  unfold MkCalls
  have HS := hide hS
  have HF := hide hF
  have HN := hide hn
  have HLO := hide hlo
  clear hS hF hlo hn
  go_enter Try.func8, Try.ntmps8
  go_wp2
  go_loopw [1, 5] (fun kk i wr => ∃ j q : Nat, j ≤ m ∧ i = .int .i64 j ∧ kk = .int .i64 q ∧ k0 ≤ q ∧ Hid (q ≤ k0 + j) ∧ q ≤ 100000000000 ∧ Hid (Mk lo n w wr)) (fun _ i _ => m - (intOf i).toNat)
  case atStart => exact ⟨0, k0, Nat.zero_le _, rfl, rfl, Nat.le_refl _, hide (Nat.le_add_right _ _), by omega, hide (Mk.refl _ _ _)⟩
  case round =>
    obtain ⟨j, q, hj, rfl, rfl, hq1, HQ, hq3, HM⟩ := hrel
    have HN0 := hide (Nat.le_trans (unhide HN) (unhide HM).size)
    by_cases hp : j < m
    · rcases (unhide HS).ak (unhide HM) with e0 | ⟨b, off, rfl, hbl, hbn, hcs⟩
      · omega
      obtain ⟨x0, d0⟩ := hcs j hp
      have HX1 : Hid True := hide trivial
      have HX3 : Hid True := hide trivial
      have HFR := hide ((unhide HF).mk (unhide HM))
      have D0 := hide d0
      clear hcs d0
      have hqq : q + (1) ≤ 100000000000 := by have := unhide HQ; have := unhide HX1; have := unhide HX3; omega
      have HQN : Hid (q + (1) ≤ k0 + (j + 1)) := hide (by have := unhide HQ; have := unhide HX1; omega)
      have g0_0 := unhide D0
      have f0_0 := unhide HFR b (off + j) hbl hbn
      have G0_0 := hide g0_0
      go_wp2
      go_roundw
      case rel =>
        refine ⟨j + 1, q + 1, by omega, by go_num, by go_num, by omega, hide ?_, by omega, hide ?_⟩
        · have := unhide HQN; omega
        · refine (unhide HM).trans ?_
          exact (Mk.set (unhide G0_0) (akI _ _) hbl hbn)
      case measure => simp [intOf]; omega
    · have HE : Hid (q ≤ k0 + m) := hide (by
        have := unhide HQ
        
        omega)
      go_wp2
      go_ret
      exact ⟨q, rfl, by omega, unhide HE, unhide HM⟩
set_option maxRecDepth 100000 in
set_option maxHeartbeats 4000000 in
theorem markWds_any (lo n : Nat) (a : Option Addr) (cap m : Nat) (k0 : Nat) (w : World) (hS : ShW w lo n a m) (hF : Fr w lo n) (hn : n ≤ w.heap.size) (hlo : lo ≤ n) (_h1 : 1 ≤ k0) (hk : k0 + m ≤ 100000000000) :
    MkCalls lo n 42 (.slice a m cap) k0 m w := by
  unfold MkCalls
  have HS := hide hS
  have HF := hide hF
  have HN := hide hn
  have HLO := hide hlo
  clear hS hF hlo hn
  go_enter Try.func42, Try.ntmps42
  go_wp2
  go_loopw [1, 5] (fun kk i wr => ∃ j q : Nat, j ≤ m ∧ i = .int .i64 j ∧ kk = .int .i64 q ∧ k0 ≤ q ∧ Hid (q ≤ k0 + j) ∧ q ≤ 100000000000 ∧ Hid (Mk lo n w wr)) (fun _ i _ => m - (intOf i).toNat)
  case atStart => exact ⟨0, k0, Nat.zero_le _, rfl, rfl, Nat.le_refl _, hide (Nat.le_add_right _ _), by omega, hide (Mk.refl _ _ _)⟩
  case round =>
    obtain ⟨j, q, hj, rfl, rfl, hq1, HQ, hq3, HM⟩ := hrel
    have HN0 := hide (Nat.le_trans (unhide HN) (unhide HM).size)
    by_cases hp : j < m
    · rcases (unhide HS).ak (unhide HM) with e0 | ⟨b, off, rfl, hbl, hbn, hcs⟩
      · omega
      obtain ⟨x0, d0⟩ := hcs j hp
      have HX1 : Hid True := hide trivial
      have HX3 : Hid True := hide trivial
      have HFR := hide ((unhide HF).mk (unhide HM))
      have D0 := hide d0
      clear hcs d0
      have hqq : q + (1) ≤ 100000000000 := by have := unhide HQ; have := unhide HX1; have := unhide HX3; omega
      have HQN : Hid (q + (1) ≤ k0 + (j + 1)) := hide (by have := unhide HQ; have := unhide HX1; omega)
      go_wp2_with fail
      refine (markText_any (q) (by omega) (by omega) _).mono ?_
      rintro r w1 ⟨rfl, hb1⟩
      have hnW0 := Nat.le_trans (show n ≤ _ from (unhide HN0)) hb1.size
      have HM1 := hide (mk_text hb1 (unhide HN0) (unhide HLO))
      have HN1 := hide hnW0
      clear hb1 hnW0 
      obtain ⟨y1_0, g1_0, z1_0⟩ := (unhide HM1).al _ _ _ hbl hbn (unhide D0)
      obtain ⟨u1_0, rfl⟩ := z1_0.str
      clear z1_0
      have f1_0 := (unhide HFR).mk (unhide HM1) b (off + j) hbl hbn
      have G1_0 := hide g1_0
      go_wp2
      go_roundw
      case rel =>
        refine ⟨j + 1, q + 1, by omega, by go_num, by go_num, by omega, hide ?_, by omega, hide ?_⟩
        · have := unhide HQN; omega
        · refine (unhide HM).trans ?_
          exact ((unhide HM1).trans (Mk.set (unhide G1_0) (akS _ _) hbl hbn))
      case measure => simp [intOf]; omega
    · have HE : Hid (q ≤ k0 + m) := hide (by
        have := unhide HQ
        
        omega)
      go_wp2
      go_ret
      exact ⟨q, rfl, by omega, unhide HE, unhide HM⟩
set_option maxRecDepth 100000 in
set_option maxHeartbeats 4000000 in
theorem markKids_of (lo n h : Nat) (IH : ∀ (a : Option Addr) (cap : Nat) (xs : List TE) (k0 : Nat) (w : World), IsKids (ShE w lo n h) w lo n a xs → xs.length ≤ maxLen → Fr w lo n → n ≤ w.heap.size → lo ≤ n → 1 ≤ k0 → k0 + 4 * nodesL xs ≤ 100000000000 → MkCalls lo n 44 (.slice a xs.length cap) k0 (4 * nodesL xs) w)
    (a : Option Addr) (cap : Nat) (xs : List TE) (k0 : Nat) (w : World) (hS : IsKids (ShE w lo n (h + 1)) w lo n a xs) (hl : xs.length ≤ maxLen) (hF : Fr w lo n) (hn : n ≤ w.heap.size) (hlo : lo ≤ n) (_h1 : 1 ≤ k0) (hk : k0 + 4 * nodesL xs ≤ 100000000000) :
    MkCalls lo n 44 (.slice a xs.length cap) k0 (4 * nodesL xs) w := by
  unfold maxLen at hl
  have HIH := hide IH
  clear IH
  unfold MkCalls
  have HS := hide hS
  have HF := hide hF
  have HN := hide hn
  have HLO := hide hlo
  clear hS hF hlo hn
  go_enter Try.func44, Try.ntmps44
  go_wp2
  go_loopw [1, 5] (fun kk i wr => ∃ j q : Nat, j ≤ xs.length ∧ i = .int .i64 j ∧ kk = .int .i64 q ∧ k0 ≤ q ∧ Hid (q ≤ k0 + 4 * nodesL (xs.take j)) ∧ q ≤ 100000000000 ∧ Hid (Mk lo n w wr)) (fun _ i _ => xs.length - (intOf i).toNat)
  case atStart => exact ⟨0, k0, Nat.zero_le _, rfl, rfl, Nat.le_refl _, hide (Nat.le_add_right _ _), by omega, hide (Mk.refl _ _ _)⟩
  case round =>
    obtain ⟨j, q, hj, rfl, rfl, hq1, HQ, hq3, HM⟩ := hrel
    have HN0 := hide (Nat.le_trans (unhide HN) (unhide HM).size)
    by_cases hp : j < xs.length
    · rcases (unhide HS).ak (unhide HM) (ShE.ak (unhide HM) (h + 1)) with e0 | ⟨b, off, rfl, hbl, hbn, hcs⟩
      · rw [e0] at hp; simp at hp
      obtain ⟨c0, c1, c2, c3, c4, d0, d1, d2, d3, d4, hr⟩ := hcs j hp
      have hs1 := nodes_step xs j hp
      have hs3 := nodes_le xs (j + 1)
      generalize xs[j] = e at hr hs1
      obtain ⟨_, _, _, _, kids⟩ := e
      rw [TE.nodes] at hs1
      obtain ⟨k, m, nm, md, a', cap', hv, hz, hr⟩ := hr
      simp only [Value.agg.injEq, Array.mk.injEq, List.cons.injEq] at hv
      obtain ⟨rfl, rfl, rfl, rfl, rfl, -⟩ := hv
      have HZ := hide hz
      have HR := hide hr
      clear hr hz
      have HX1 := hide hs1
      have HX3 := hide hs3
      clear hs1 hs3
      have HFR := hide ((unhide HF).mk (unhide HM))
      have D0 := hide d0
      have D1 := hide d1
      have D2 := hide d2
      have D3 := hide d3
      have D4 := hide d4
      clear hcs d0 d1 d2 d3 d4
      have hqq : q + (4 + 4 * nodesL kids) ≤ 100000000000 := by have := unhide HQ; have := unhide HX1; have := unhide HX3; omega
      have HQN : Hid (q + (4 + 4 * nodesL kids) ≤ k0 + 4 * nodesL (xs.take (j + 1))) := hide (by have := unhide HQ; have := unhide HX1; omega)
      have g0_0 := unhide D0
      have f0_0 := unhide HFR b (off + j * 5) hbl hbn
      have G0_0 := hide g0_0
      have g0_1 := unhide D1
      have f0_1 := unhide HFR b (off + j * 5 + 1) hbl hbn
      have G0_1 := hide g0_1
      go_wp2_with fail
      refine (markText_any (q + 1 + 1) (by omega) (by omega) _).mono ?_
      rintro r w1 ⟨rfl, hb1⟩
      have hnW0 := Nat.le_trans (show n ≤ _ from (by simpa [World.setCell] using unhide HN0)) hb1.size
      have HM1 := hide (((Mk.set (unhide G0_0) (akI _ _) hbl hbn).trans (Mk.set ((cell_other _ _ _ _ _ (by omega)).trans (unhide G0_1)) (akI _ _) hbl hbn)).trans (mk_text hb1 (by simpa [World.setCell] using unhide HN0) (unhide HLO)))
      have HN1 := hide hnW0
      clear hb1 hnW0 g0_0 g0_1 f0_0 f0_1
      obtain ⟨y1_2, g1_2, z1_2⟩ := (unhide HM1).al _ _ _ hbl hbn (unhide D2)
      obtain ⟨u1_2, rfl⟩ := z1_2.str
      clear z1_2
      have f1_2 := (unhide HFR).mk (unhide HM1) b (off + j * 5 + 2) hbl hbn
      have G1_2 := hide g1_2
      go_wp2_with fail
      refine (markText_any (q + 1 + 1 + 1) (by omega) (by omega) _).mono ?_
      rintro r w2 ⟨rfl, hb2⟩
      have hnW1 := Nat.le_trans (show n ≤ _ from (by simpa [World.setCell] using unhide HN1)) hb2.size
      have HM2 := hide (((unhide HM1).trans (Mk.set (unhide G1_2) (akS _ _) hbl hbn)).trans (mk_text hb2 (by simpa [World.setCell] using unhide HN1) (unhide HLO)))
      have HN2 := hide hnW1
      clear hb2 hnW1 g1_2 f1_2
      obtain ⟨y2_3, g2_3, z2_3⟩ := (unhide HM2).al _ _ _ hbl hbn (unhide D3)
      obtain ⟨u2_3, rfl⟩ := z2_3.str
      clear z2_3
      have f2_3 := (unhide HFR).mk (unhide HM2) b (off + j * 5 + 3) hbl hbn
      have G2_3 := hide g2_3
      obtain ⟨y2_4, g2_4, z2_4⟩ := (unhide HM2).al _ _ _ hbl hbn (unhide D4)
      obtain rfl := z2_4.slice
      clear z2_4
      have G2_4 := hide g2_4
      go_wp2_with fail
      refine (unhide HIH a' cap' kids (q + 1 + 1 + 1 + 1) _ ((unhide HR).ak ((unhide HM2).trans (Mk.set (unhide G2_3) (akS _ _) hbl hbn)) (ShE.ak ((unhide HM2).trans (Mk.set (unhide G2_3) (akS _ _) hbl hbn)) h)) (unhide HZ) ((unhide HFR).mk ((unhide HM2).trans (Mk.set (unhide G2_3) (akS _ _) hbl hbn))) (by simpa [World.setCell] using unhide HN2) (unhide HLO) (by omega) (by omega)).mono ?_
      rintro r w3 ⟨q3, rfl, ha3, hc3, hm3⟩
      have HN3 := hide (Nat.le_trans (show n ≤ _ from (by simpa [World.setCell] using unhide HN2)) hm3.size)
      have HM3 := hide (((unhide HM2).trans (Mk.set (unhide G2_3) (akS _ _) hbl hbn)).trans hm3)
      clear hm3 g2_3 g2_4 f2_3
      go_wp2
      go_roundw
      case rel =>
        refine ⟨j + 1, q3, by omega, by go_num, by go_num, by omega, hide ?_, by omega, hide ?_⟩
        · have := unhide HQN; omega
        · refine (unhide HM).trans ?_
          exact (unhide HM3)
      case measure => simp [intOf]; omega
    · have HE : Hid (q ≤ k0 + 4 * nodesL xs) := hide (by
        have := unhide HQ
        rw [List.take_of_length_le (by omega)] at this
        omega)
      go_wp2
      go_ret
      exact ⟨q, rfl, by omega, unhide HE, unhide HM⟩
set_option maxHeartbeats 400000 in
theorem markKids_nil (lo n : Nat) (a : Option Addr) (cap : Nat) (xs : List TE) (k0 : Nat) (w : World) (hS : IsKids (ShE w lo n 0) w lo n a xs) (_ : xs.length ≤ maxLen) (_ : Fr w lo n) (_ : n ≤ w.heap.size) (_ : lo ≤ n) (_ : 1 ≤ k0) (_ : k0 + 4 * nodesL xs ≤ 100000000000) : MkCalls lo n 44 (.slice a xs.length cap) k0 (4 * nodesL xs) w := by
  have : xs = [] := by
    rcases hS with e | ⟨b, off, _, _, _, hcs⟩
    · exact e
    · rcases xs with _ | ⟨x, t⟩
      · rfl
      · obtain ⟨_, _, _, _, _, _, _, _, _, _, hr⟩ := hcs 0 (by simp)
        exact hr.elim
  subst this
  unfold MkCalls
  show Calls Try.prog 44 #[.slice a 0 cap, .int .i64 (k0 : Int)] w _
  go_enter Try.func44, Try.ntmps44
  go_wp2
  go_loopw [1, 5] (fun kk i wr => i = .int .i64 0 ∧ kk = .int .i64 (k0 : Int) ∧ w = wr) (fun _ i _ => 0)
  case atStart => exact ⟨rfl, rfl, rfl⟩
  case round =>
    obtain ⟨rfl, rfl, rfl⟩ := hrel
    go_wp2
    go_ret
    exact ⟨k0, rfl, Nat.le_refl _, by omega, Mk.refl _ _ _⟩

theorem markKids_any (lo n : Nat) : ∀ (h : Nat) (a : Option Addr) (cap : Nat) (xs : List TE) (k0 : Nat) (w : World), IsKids (ShE w lo n h) w lo n a xs → xs.length ≤ maxLen → Fr w lo n → n ≤ w.heap.size → lo ≤ n → 1 ≤ k0 → k0 + 4 * nodesL xs ≤ 100000000000 → MkCalls lo n 44 (.slice a xs.length cap) k0 (4 * nodesL xs) w
  | 0, a, cap, xs, k0, w, hS, hl, hF, hn, hlo, h1, hk => markKids_nil lo n a cap xs k0 w hS hl hF hn hlo h1 hk
  | h + 1, a, cap, xs, k0, w, hS, hl, hF, hn, hlo, h1, hk => markKids_of lo n h (markKids_any lo n h) a cap xs k0 w hS hl hF hn hlo h1 hk
end Go.Proofs.Ytkiaidjkhhljhaa
