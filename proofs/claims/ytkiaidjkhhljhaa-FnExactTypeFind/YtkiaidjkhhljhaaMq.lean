/- The walks of markTreeMod on a module that may be written, and of markFaceSig and heldFaceSig. Conditions: the module can be read, and may be written. -/
import Derived.Test.YtkiaidjkhhljhaaMo
import Derived.Test.YtkiaidjkhhljhaaMp
import Derived.Test.YtkiaidjkhhljhaaHa
namespace Go.Proofs.Ytkiaidjkhhljhaa
open Go.RowKit Go.PlainAid

theorem below_newM (w : World) (o : Obj) : Below w.heap.size w (w.alloc o) := (Below.refl _ _).alloc (Nat.le_refl _) _
theorem Blk.high {w w' : World} {B lo n : Nat} {C : List Value} (h : Blk w B C) (hm : Mk lo n w w') (hB : n ≤ B) (hw : B < w.heap.size) : Blk w' B C :=
  ⟨fun i => (World.cell?_of_block (w := w) (a := ⟨B, i, none⟩) (hm.high B hB hw)).trans (h.1 i), fun i => (World.frozen?_of_block (w := w) (a := ⟨B, i, none⟩) (hm.high B hB hw)).trans (h.2 i)⟩
def mM (m : TM) : Nat := m.uses.length + sm mF m.funs + 4 * nodesL m.main
set_option maxRecDepth 100000 in
set_option maxHeartbeats 2000000 in
theorem markMod_any (lo n h : Nat) (v : Value) (m : TM) (k0 : Nat) (w : World) (hS : IsMod w lo n h v m) (hF : Fr w lo n) (hn : n ≤ w.heap.size) (hlo : lo ≤ n) (_h1 : 1 ≤ k0) (hk : k0 + mM m ≤ 100000000000) :
    MkCalls lo n 19 v k0 (mM m) w := by
  unfold MkCalls
  obtain ⟨us, fs, mn⟩ := m
  obtain ⟨a1, a2, a3, k1, k2, k3, rfl, ⟨hz1, hz2, hz3, _, _⟩, q1, q2, q3⟩ := hS
  dsimp only at hz1 hz2 hz3 q1 q2 q3
  have hk' : k0 + (us.length + sm mF fs + 4 * nodesL mn) ≤ 100000000000 := hk
  show Calls Try.prog 19 #[.agg #[.slice a1 us.length k1, .slice a2 fs.length k2, .slice a3 mn.length k3], .int .i64 (k0 : Int)] w fun e w' => ∃ k' : Nat, e = .returned (.int .i64 (k' : Int)) ∧ k0 ≤ k' ∧ k' ≤ k0 + (us.length + sm mF fs + 4 * nodesL mn) ∧ Mk lo n w w'
  clear hk
  have A1 := hide (ShW.of q1)
  have A2 := hide (q2.mono (R' := ShF w lo n h) (fun v e he => ShF.of he) (fun _ _ _ => rfl) (Nat.le_refl _) (Nat.le_refl _))
  have A3 := hide (q3.mono (R' := ShE w lo n h) (fun v e he => ShE.of h v e he) (fun _ _ _ => rfl) (Nat.le_refl _) (Nat.le_refl _))
  have HF := hide hF
  have HN := hide hn
  have HLO := hide hlo
  have Z2 := hide hz2
  have Z3 := hide hz3
  clear q1 q2 q3 hF hn hlo hz1 hz2 hz3
  obtain ⟨B, hB⟩ : ∃ B, sm mF fs = B := ⟨_, rfl⟩
  obtain ⟨C, hC⟩ : ∃ C, 4 * nodesL mn = C := ⟨_, rfl⟩
  rw [hB, hC] at hk' ⊢
  have HBB := hide hB
  have HCC := hide hC
  clear hB hC
  have hm0 : Mk lo n w (w.alloc (.cells #[.slice a1 us.length k1, .slice a2 fs.length k2, .slice a3 mn.length k3] 43)) := Mk.below (below_newM _ _) (unhide HN) (Nat.le_trans (unhide HLO) (unhide HN))
  have HM0 := hide hm0
  have b0 := Blk.new w [.slice a1 us.length k1, .slice a2 fs.length k2, .slice a3 mn.length k3] 43
  have B0 := hide b0
  have HN0 := hide (Nat.le_trans (unhide HN) hm0.size)
  have HW0 : Hid (w.heap.size < (w.alloc (.cells #[.slice a1 us.length k1, .slice a2 fs.length k2, .slice a3 mn.length k3] 43)).heap.size) := hide (by simp)
  clear hm0 b0
  go_enter Try.func19, Try.ntmps19
  go_wp2_with fail
  refine (markWds_any lo n a1 k1 us.length k0 _ ((unhide A1).ak (unhide HM0)) ((unhide HF).mk (unhide HM0)) (unhide HN0) (unhide HLO) (by omega) (by omega)).mono ?_
  rintro r w1 ⟨q1, rfl, ha1, hc1, hm1⟩
  have n1 := Blk.high (unhide B0) hm1 (unhide HN) (unhide HW0)
  have HW1 := hide (Nat.lt_of_lt_of_le (unhide HW0) hm1.size)
  have HM1 := hide ((unhide HM0).trans hm1)
  have HN1 := hide (Nat.le_trans (unhide HN0) hm1.size)
  have p1 := n1.cellAt (i := 1) rfl
  have B1 := hide n1
  clear n1 hm1
  go_wp2_with fail
  refine (markFuns_any lo n h a2 k2 fs q1 _ ((unhide A2).ak (unhide HM1) (ShF.ak (unhide HM1) h)) (unhide Z2) ((unhide HF).mk (unhide HM1)) (unhide HN1) (unhide HLO) (by omega) (by have := unhide HBB; omega)).mono ?_
  rw [unhide HBB]
  rintro r w2 ⟨q2, rfl, ha2, hc2, hm2⟩
  have n2 := Blk.high (unhide B1) hm2 (unhide HN) (unhide HW1)
  have HM2 := hide ((unhide HM1).trans hm2)
  have HN2 := hide (Nat.le_trans (unhide HN1) hm2.size)
  have p2 := n2.cellAt (i := 2) rfl
  clear n2 hm2
  go_wp2_with fail
  refine (markKids_any lo n h a3 k3 mn q2 _ ((unhide A3).ak (unhide HM2) (ShE.ak (unhide HM2) h)) (unhide Z3) ((unhide HF).mk (unhide HM2)) (unhide HN2) (unhide HLO) (by omega) (by have := unhide HCC; omega)).mono ?_
  rw [unhide HCC]
  rintro r w3 ⟨q3, rfl, ha3, hc3, hm3⟩
  have HM3 := hide ((unhide HM2).trans hm3)
  clear hm3
  go_wp2
  go_ret
  exact ⟨q3, rfl, by omega, by omega, unhide HM3⟩

set_option maxHeartbeats 1000000 in
theorem markIntS_at (lo n : Nat) (v : Value) (zs : List Int) (k0 : Nat) (w : World) (h : OwnI w lo n v zs) (hl : zs.length ≤ 1000000000000) (hk0 : k0 ≤ 9000000000000000) :
    Calls Try.prog 8 #[v, .int .i64 k0] w fun e w' => e = .returned (.int .i64 ((k0 + zs.length : Nat) : Int)) ∧ OwnI w' lo n v (marksI k0 zs.length) ∧ Below lo w w' ∧ w'.heap.size = w.heap.size ∧ ∀ c, n ≤ c → w'.heap[c]? = w.heap[c]? := by
  obtain ⟨a, cap, rfl, h⟩ := h

  have HW := hide h
  clear h
  go_enter Try.func8, Try.ntmps8
  go_wp2
  go_loopw [1, 5] (fun kk i wr => ∃ k : Nat, k ≤ zs.length ∧ i = .int .i64 k ∧ kk = .int .i64 ((k0 + k : Nat) : Int) ∧ Hid (Below lo w wr) ∧ Hid (wr.heap.size = w.heap.size) ∧ Hid (∀ c, n ≤ c → wr.heap[c]? = w.heap[c]?) ∧ Hid (∀ b, a = some ⟨b, 0, none⟩ → (∀ j, wr.frozen? ⟨b, j, none⟩ = w.frozen? ⟨b, j, none⟩) ∧ (∀ j, j < k → wr.cell? ⟨b, j, none⟩ = some (.int .i64 ((k0 + j : Nat) : Int))) ∧ ∀ j, k ≤ j → wr.cell? ⟨b, j, none⟩ = w.cell? ⟨b, j, none⟩)) (fun _ i _ => zs.length - (intOf i).toNat)
  case atStart => exact ⟨0, Nat.zero_le _, rfl, rfl, hide (Below.refl _ _), hide rfl, hide (fun _ _ => rfl), hide (fun b _ => ⟨fun _ => rfl, fun j hj => absurd hj (Nat.not_lt_zero _), fun j _ => rfl⟩)⟩
  case round =>
    obtain ⟨k, hk, rfl, rfl, HB, HS, HO, HC⟩ := hrel
    by_cases hp : k < zs.length
    · rcases unhide HW with h | ⟨b, rfl, h2, h3, h4, h5⟩
      · rw [h] at hp; simp at hp
      obtain ⟨g1, g2, g3⟩ := unhide HC b rfl
      have hc : wr.cell? ⟨b, k, none⟩ = some (.int .i64 (zs[k]'hp)) := (g3 k (Nat.le_refl _)).trans (h4 k hp)
      have hf : wr.frozen? ⟨b, k, none⟩ = false := (g1 k).trans (h5 k)
      generalize zs[k]'hp = x at hc
      have HG1 := hide g1
      have HG2 := hide g2
      have HG3 := hide g3
      have H2 := hide h2
      have H3 := hide h3
      have HCC := hide hc
      clear g1 g2 g3 h4 h5
      go_wp2
      go_roundw
      case rel =>
        refine ⟨k + 1, by omega, by go_num, by go_num, hide ((unhide HB).setCell (p := ⟨b, k, none⟩) (unhide H2) _), hide (by simpa [World.setCell] using unhide HS), hide (fun c hc => by rw [Below.heap_setCell _ _ _ _ (by have := unhide H3; simp; omega)]; exact unhide HO c hc), hide (fun b' e => ?_)⟩
        cases e
        refine ⟨fun j => by rw [World.frozen?_setCell]; exact unhide HG1 j, fun j hj => ?_, fun j hj => ?_⟩
        · by_cases e : j = k
          · subst e
            exact cell_same _ _ _ _ (by rw [unhide HCC]; rfl)
          · rw [cell_other _ _ _ _ _ (by omega)]
            exact unhide HG2 j (by omega)
        · rw [cell_other _ _ _ _ _ (by omega)]
          exact unhide HG3 j (by omega)
      case measure => simp [intOf]; omega
    · have hk' : k = zs.length := by omega
      subst hk'
      have HR : Hid (OwnI wr lo n (.slice a zs.length cap) (marksI k0 zs.length)) := hide (by
        refine ⟨a, cap, by rw [marksI_len], ?_⟩
        rcases unhide HW with h | ⟨b, rfl, h2, h3, h4, h5⟩
        · exact .inl (by rw [h]; rfl)
        · obtain ⟨g1, g2, g3⟩ := unhide HC b rfl
          exact .inr ⟨b, rfl, h2, h3, fun j hj => by rw [marksI_at]; exact g2 j (by rw [marksI_len] at hj; exact hj), fun j => (g1 j).trans (h5 j)⟩)
      go_wp2
      go_ret
      exact ⟨rfl, unhide HR, unhide HB, unhide HS, unhide HO⟩

set_option maxHeartbeats 1000000 in
theorem markFaceSig_any (lo n : Nat) (x v t : Value) (zs : List Int) (k0 : Nat) (w : World) (h : OwnI w lo n v zs) (hn : n ≤ w.heap.size) (hlo : lo ≤ n) (hl : zs.length ≤ 1000000000000) (hk0 : k0 ≤ 9000000000000000) :
    Calls Try.prog 21 #[.agg #[x, v, t], .int .i64 k0] w fun e w' => e = .returned (.int .i64 ((k0 + zs.length : Nat) : Int)) ∧ OwnI w' lo n v (marksI k0 zs.length) ∧ Below lo w w' ∧ ∀ c, n ≤ c → c < w.heap.size → w'.heap[c]? = w.heap[c]? := by
  have H := hide (fun (W : World) (hb : Below w.heap.size w W) => markIntS_at lo n v zs k0 W (h.kept (hb.mono hn) (Nat.le_refl _)) hl hk0)
  have HLO := hide (Nat.le_trans hlo hn)
  obtain ⟨a, cap, rfl, _⟩ := h
  clear hlo hn
  go_enter Try.func21, Try.ntmps21
  go_wp2_with fail
  refine (unhide H _ (below_newM _ _)).mono ?_
  rintro r w1 ⟨rfl, ho, hb, hs, hc⟩
  have HO := hide ho
  have HB := hide (((below_newM _ _).mono (unhide HLO)).trans hb)
  have HC := hide (fun (c : Nat) (h1 : n ≤ c) (h2 : c < w.heap.size) => (hc c h1).trans (Below.heap_alloc _ _ _ h2))
  clear ho hb hs H hc
  go_wp2
  go_ret
  exact ⟨rfl, unhide HO, unhide HB, unhide HC⟩

set_option maxHeartbeats 1000000 in
theorem heldFaceSig_any (lo : Nat) (x v t : Value) (k0 m : Nat) (w : World) (n : Nat) (hn : n ≤ w.heap.size) (h : OwnI w lo n v (marksI k0 m)) (hl : m ≤ 1000000000000) (hk0 : k0 ≤ 9000000000000000) :
    Calls Try.prog 22 #[.agg #[x, v, t], .int .i64 k0] w fun e w' => e = .returned (.int .i64 ((k0 + m : Nat) : Int)) ∧ Below w.heap.size w w' := by
  have H := hide (fun (W : World) (hb : Below w.heap.size w W) => heldIntS_any lo n v k0 m W (h.kept (hb.mono hn) (Nat.le_refl _)) hl hk0)
  obtain ⟨a, cap, rfl, _⟩ := h
  go_enter Try.func22, Try.ntmps22
  go_wp2_with fail
  refine (unhide H _ (below_newM _ _)).mono ?_
  rintro r w1 ⟨rfl, rfl⟩
  have HB := hide (below_newM w (.cells #[x, .slice a (marksI k0 m).length cap, t] 37))
  clear H
  have hn : ¬ ((k0 + m : Nat) : Int) < 0 := by omega
  go_wp2
  go_ret
  exact ⟨rfl, unhide HB⟩
end Go.Proofs.Ytkiaidjkhhljhaa
