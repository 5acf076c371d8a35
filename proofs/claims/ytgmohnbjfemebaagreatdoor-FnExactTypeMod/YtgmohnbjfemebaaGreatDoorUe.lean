/- The walk of toTreeMod: a module is copied. Conditions: the module can be read, and weighs at most 2^20. -/
import Derived.Test.YtgmohnbjfemebaaGreatDoorUb
namespace Go.Proofs.YtgmohnbjfemebaaGreatDoor
open Go.RowKit Go.PlainAid

theorem Blk.cellAt {w : World} {B i : Nat} {C : List Value} {v : Value} (h : Blk w B C) (hv : C[i]? = some v) : w.cell? ⟨B, i, none⟩ = some v := (h.1 i).trans hv
set_option maxHeartbeats 2000000 in
theorem toTreeMod_any (lo h : Nat) (v : Value) (m : TM) (w : World) (hM : IsMod w lo w.heap.size h v m) (ht : m.wt ≤ 1048576) :
    Calls Tryz.prog 18 #[v] w fun r w' => ∃ v', r = .returned v' ∧ IsMod w' w.heap.size w'.heap.size h v' m ∧ Below w.heap.size w w' := by
  obtain ⟨us, fs, mn⟩ := m
  obtain ⟨a1, a2, a3, k1, k2, k3, rfl, ⟨z1, z2, z3, z4, _⟩, q1, q2, q3⟩ := hM
  dsimp only at z1 z2 z3 z4 q1 q2 q3 ⊢
  have hz : us.length ≤ maxLen ∧ fs.length ≤ maxLen ∧ mn.length ≤ maxLen ∧ ∀ x ∈ us, x.size ≤ maxLen := ⟨z1, z2, z3, z4⟩
  clear z1 z2 z3 z4
  have ht' : (us.length + wtWds us) + (fs.length + wtFuns fs) + (mn.length + wtL mn) ≤ 1048576 := ht
  have HA := hide (fun (w' : World) (hb : Below w.heap.size w w') => toWds_any lo a1 k1 us w' (q1.kept hb hb.size) (by omega))
  have HC := hide (fun (w' : World) (hb : Below w.heap.size w w') => toTreeFunS_of lo h (toTreeFun_any lo h) a2 k2 fs w' (q2.kept hb hb.size) (by omega))
  have HE := hide (fun (w' : World) (hb : Below w.heap.size w w') => toTreeExprS_of lo h (toTreeExpr_any lo h) a3 k3 mn w' (q3.kept hb hb.size) (by omega))
  have HZ := hide hz
  clear q1 q2 q3 ht ht' hz
  go_enter Tryz.func18, Tryz.ntmps18
  go_wp2_with fail
  refine (unhide HA _ ((((Below.refl _ w).alloc (Nat.le_refl _) _).alloc (by simp) _).alloc (by simp; omega) _)).mono ?_
  rintro r w2 ⟨b1, j1, rfl, hj1, hk2, hb2⟩
  have HJ1 := hide hj1
  clear hj1
  have hB2 : Below w.heap.size w w2 := (((((Below.refl _ w).alloc (Nat.le_refl _) _).alloc (by simp) _).alloc (by simp; omega) _)).trans (hb2.mono (by simp; omega))
  rw [alloc_size, alloc_size, alloc_size] at hk2
  have n1 : Blk w2 w.heap.size [Value.slice a1 us.length k1, .slice a2 fs.length k2, .slice a3 mn.length k3] := (((Blk.new w [Value.slice a1 us.length k1, .slice a2 fs.length k2, .slice a3 mn.length k3] 50).old _ (by simp only [alloc_size]; omega)).old _ (by simp only [alloc_size]; omega)).below hb2 (by simp only [alloc_size]; omega)
  have n2 : Blk w2 (w.heap.size + 1) [Value.slice none 0 0, Value.slice none 0 0, Value.slice none 0 0] := by
    have := ((Blk.new (w.alloc (.cells #[Value.slice a1 us.length k1, .slice a2 fs.length k2, .slice a3 mn.length k3] 50)) [Value.slice none 0 0, Value.slice none 0 0, Value.slice none 0 0] 27).old (.cells #[Value.slice none 0 0, Value.slice none 0 0, Value.slice none 0 0] 27) (by simp only [alloc_size]; omega)).below hb2 (by simp only [alloc_size]; omega)
    rw [alloc_size] at this
    exact this
  have n3 : Blk w2 (w.heap.size + 1 + 1) [Value.slice none 0 0, Value.slice none 0 0, Value.slice none 0 0] := by
    have := (Blk.new ((w.alloc (.cells #[Value.slice a1 us.length k1, .slice a2 fs.length k2, .slice a3 mn.length k3] 50)).alloc (.cells #[Value.slice none 0 0, Value.slice none 0 0, Value.slice none 0 0] 27)) [Value.slice none 0 0, Value.slice none 0 0, Value.slice none 0 0] 27).below hb2 (by simp only [alloc_size]; omega)
    rw [alloc_size, alloc_size] at this
    exact this
  have hS2 : w.heap.size + 3 ≤ w2.heap.size := by have := hb2.size; rw [alloc_size, alloc_size, alloc_size] at this; omega
  have p1 := n1.cellAt (i := 1) rfl
  have o0 := n3.cellAt (i := 0) rfl
  have g0 := n3.2 0
  have N1 := hide n1
  have N2 := hide n2
  have N3 := hide n3
  have HB2 := hide hB2
  have HK2 := hide hk2
  have HS2 := hide hS2
  clear n1 n2 n3 hb2 hB2 hk2 hS2
  go_wp2_with fail
  have hW : Below w.heap.size w (w2.setCell ⟨w.heap.size + 1 + 1, 0, none⟩ (.slice b1 us.length j1)) := (unhide HB2).setCell (p := ⟨w.heap.size + 1 + 1, 0, none⟩) (by simp; omega) _
  have hW3 := (unhide N3).set 0 (.slice b1 us.length j1) (by simp)
  have hW2 := (unhide N2).other (w.heap.size + 1 + 1) 0 (.slice b1 us.length j1) (by omega)
  have hW1 := (unhide N1).other (w.heap.size + 1 + 1) 0 (.slice b1 us.length j1) (by omega)
  have hWs : (w2.setCell ⟨w.heap.size + 1 + 1, 0, none⟩ (.slice b1 us.length j1)).heap.size = w2.heap.size := by simp [World.setCell]
  have hWo : Same (w.heap.size + 3) w2.heap.size w2 (w2.setCell ⟨w.heap.size + 1 + 1, 0, none⟩ (.slice b1 us.length j1)) := fun b h1 h2 => Below.heap_setCell _ _ _ _ (by simp; omega)
  generalize (w2.setCell ⟨w.heap.size + 1 + 1, 0, none⟩ (.slice b1 us.length j1)) = W' at hW hW3 hW2 hW1 hWs hWo ⊢
  have hk3 := (unhide HK2).same hWo (Nat.le_refl _) (by omega : w2.heap.size ≤ W'.heap.size)
  have hS3 : w.heap.size + 3 ≤ W'.heap.size := by have := unhide HS2; omega
  clear p1 o0 g0 N1 N2 N3 HB2 HK2 HS2 hWo hWs
  refine (unhide HC W' hW).mono ?_
  rintro r w4 ⟨b2, j2, rfl, hk4, hb4⟩
  have hk3' := hk3.kept hb4 hb4.size
  have hB4 := hW.trans (hb4.mono (by omega))
  have hS4 : w.heap.size + 3 ≤ w4.heap.size := by have := hb4.size; omega
  have n1 := hW1.below hb4 (by omega)
  have n2 := hW2.below hb4 (by omega)
  have n3 := hW3.below hb4 (by omega)
  have p2 := n1.cellAt (i := 2) rfl
  have o1 := n3.cellAt (i := 1) rfl
  have g1 := n3.2 1
  have hk4' := hk4.mono (fun v e he => IsFun.same h (fun _ _ _ => rfl) hS3 (Nat.le_refl _) v e he) (fun _ _ _ => rfl) hS3 (Nat.le_refl _)
  have N1 := hide n1
  have N2 := hide n2
  have N3 := hide n3
  have HB2 := hide hB4
  have HK2 := hide hk3'
  have HK4 := hide hk4'
  have HS2 := hide hS4
  clear n1 n2 n3 hb4 hB4 hk3 hk3' hk4 hk4' hS4 hS3 hW hW1 hW2 hW3
  go_wp2_with fail
  have hW : Below w.heap.size w (w4.setCell ⟨w.heap.size + 1 + 1, 1, none⟩ (.slice b2 fs.length j2)) := (unhide HB2).setCell (p := ⟨w.heap.size + 1 + 1, 1, none⟩) (by simp; omega) _
  have hW3 := (unhide N3).set 1 (.slice b2 fs.length j2) (by simp)
  have hW2 := (unhide N2).other (w.heap.size + 1 + 1) 1 (.slice b2 fs.length j2) (by omega)
  have hWs : (w4.setCell ⟨w.heap.size + 1 + 1, 1, none⟩ (.slice b2 fs.length j2)).heap.size = w4.heap.size := by simp [World.setCell]
  have hWo : Same (w.heap.size + 3) w4.heap.size w4 (w4.setCell ⟨w.heap.size + 1 + 1, 1, none⟩ (.slice b2 fs.length j2)) := fun b h1 h2 => Below.heap_setCell _ _ _ _ (by simp; omega)
  generalize (w4.setCell ⟨w.heap.size + 1 + 1, 1, none⟩ (.slice b2 fs.length j2)) = W5 at hW hW3 hW2 hWs hWo ⊢
  have hk3 := (unhide HK2).same hWo (Nat.le_refl _) (by omega : w4.heap.size ≤ W5.heap.size)
  have hk4 := (unhide HK4).mono (fun v e he => IsFun.same h hWo (Nat.le_refl _) (by omega : w4.heap.size ≤ W5.heap.size) v e he) hWo (Nat.le_refl _) (by omega : w4.heap.size ≤ W5.heap.size)
  have hS3 : w.heap.size + 3 ≤ W5.heap.size := by have := unhide HS2; omega
  clear p2 o1 g1 N1 N2 N3 HB2 HK2 HK4 HS2 hWo hWs
  refine (unhide HE W5 hW).mono ?_
  rintro r w6 ⟨b3, j3, rfl, hk6, hb6⟩
  have hk3' := hk3.kept hb6 hb6.size
  have hk4' := hk4.kept hb6 hb6.size
  have hk6' := hk6.mono (fun v e he => IsE.same (fun _ _ _ => rfl) hS3 (Nat.le_refl _) h v e he) (fun _ _ _ => rfl) hS3 (Nat.le_refl _)
  have hB6 := hW.trans (hb6.mono (by omega))
  have hS6 : w.heap.size + 3 ≤ w6.heap.size := by have := hb6.size; omega
  have n2 := hW2.below hb6 (by omega)
  have n3 := hW3.below hb6 (by omega)
  have o0 := n3.cellAt (i := 0) rfl
  have o1 := n3.cellAt (i := 1) rfl
  have o2 := n3.cellAt (i := 2) rfl
  have g2 := n3.2 2
  have q0 := n2.cellAt (i := 0) rfl
  have q1 := n2.cellAt (i := 1) rfl
  have q2 := n2.cellAt (i := 2) rfl
  have f0 := n2.2 0
  have f1 := n2.2 1
  have f2 := n2.2 2
  have HF2 := hide (((((n2.other (w.heap.size + 1 + 1) 2 (.slice b3 mn.length j3) (by omega)).set 0 (.slice b1 us.length j1) (by simp)).set 1 (.slice b2 fs.length j2) (by simp)).set 2 (.slice b3 mn.length j3) (by simp)))
  have HFB := hide ((((hB6.setCell (p := ⟨w.heap.size + 1 + 1, 2, none⟩) (by simp; omega) (.slice b3 mn.length j3)).setCell (p := ⟨w.heap.size + 1, 0, none⟩) (by simp) (.slice b1 us.length j1)).setCell (p := ⟨w.heap.size + 1, 1, none⟩) (by simp) (.slice b2 fs.length j2)).setCell (p := ⟨w.heap.size + 1, 2, none⟩) (by simp) (.slice b3 mn.length j3))
  have HFS : Hid (((((w6.setCell ⟨w.heap.size + 1 + 1, 2, none⟩ (.slice b3 mn.length j3)).setCell ⟨w.heap.size + 1, 0, none⟩ (.slice b1 us.length j1)).setCell ⟨w.heap.size + 1, 1, none⟩ (.slice b2 fs.length j2)).setCell ⟨w.heap.size + 1, 2, none⟩ (.slice b3 mn.length j3)).heap.size = w6.heap.size) := hide (by simp [World.setCell])
  have HFO : Hid (Same (w.heap.size + 3) w6.heap.size w6 ((((w6.setCell ⟨w.heap.size + 1 + 1, 2, none⟩ (.slice b3 mn.length j3)).setCell ⟨w.heap.size + 1, 0, none⟩ (.slice b1 us.length j1)).setCell ⟨w.heap.size + 1, 1, none⟩ (.slice b2 fs.length j2)).setCell ⟨w.heap.size + 1, 2, none⟩ (.slice b3 mn.length j3))) := hide (fun b h1 h2 => by
    rw [Below.heap_setCell _ _ _ _ (by simp; omega), Below.heap_setCell _ _ _ _ (by simp; omega), Below.heap_setCell _ _ _ _ (by simp; omega), Below.heap_setCell _ _ _ _ (by simp; omega)])
  have K1 := hide hk3'
  have K2 := hide hk4'
  have K3 := hide hk6'
  have S6 := hide hS6
  clear n2 n3 hk3 hk3' hk4 hk4' hk6 hk6' hB6 hS6 hW hW2 hW3 hS3 hb6
  go_wp2
  obtain ⟨F, hF⟩ : ∃ F, F = ((((w6.setCell ⟨w.heap.size + 1 + 1, 2, none⟩ (.slice b3 mn.length j3)).setCell ⟨w.heap.size + 1, 0, none⟩ (.slice b1 us.length j1)).setCell ⟨w.heap.size + 1, 1, none⟩ (.slice b2 fs.length j2)).setCell ⟨w.heap.size + 1, 2, none⟩ (.slice b3 mn.length j3)) := ⟨_, rfl⟩
  rw [← hF] at HF2 HFB HFS HFO ⊢
  have e0 := (unhide HF2).cellAt (i := 0) rfl
  have e1 := (unhide HF2).cellAt (i := 1) rfl
  have e2 := (unhide HF2).cellAt (i := 2) rfl
  refine bodyPost_ret (v := .agg #[.slice b1 us.length j1, .slice b2 fs.length j2, .slice b3 mn.length j3]) (by simp [results, Tryz.results18, go_sem, e0, e1, e2]) rfl ?_
  have hs := unhide HFO
  have hz := unhide HFS
  have hl : w.heap.size ≤ w.heap.size + 3 := by omega
  refine ⟨_, rfl, ⟨b1, b2, b3, j1, j2, j3, rfl, ⟨(unhide HZ).1, (unhide HZ).2.1, (unhide HZ).2.2.1, (unhide HZ).2.2.2, unhide HJ1⟩, (unhide K1).same hs hl (by omega), (unhide K2).mono (fun v e he => IsFun.same h hs hl (by omega) v e he) hs hl (by omega), (unhide K3).mono (fun v e he => IsE.same hs hl (by omega) h v e he) hs hl (by omega)⟩, unhide HFB⟩
end Go.Proofs.YtgmohnbjfemebaaGreatDoor
