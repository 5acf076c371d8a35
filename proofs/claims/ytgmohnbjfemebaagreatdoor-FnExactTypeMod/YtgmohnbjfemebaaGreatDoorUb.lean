/- Modules in memory; the walks of szTreeMod, eqTreeMod, toTreeMod. Conditions: the module can be read. -/
import Derived.Test.YtgmohnbjfemebaaGreatDoorUa
import Derived.Test.YtgmohnbjfemebaaGreatDoorTn
namespace Go.Proofs.YtgmohnbjfemebaaGreatDoor
open Go.RowKit Go.PlainAid

/-- A module. -/
structure TM where
  uses : List ByteArray
  funs : List TF
  main : List TE
def TM.wt (m : TM) : Nat := (m.uses.length + wtWds m.uses) + (m.funs.length + wtFuns m.funs) + (m.main.length + wtL m.main)
/-- A value that is a module, all of it in the blocks from lo on and below n. -/
def IsMod (w : World) (lo n h : Nat) (v : Value) (m : TM) : Prop :=
  ∃ (a1 a2 a3 : Option Addr) (k1 k2 k3 : Nat), v = .agg #[.slice a1 m.uses.length k1, .slice a2 m.funs.length k2, .slice a3 m.main.length k3] ∧ (m.uses.length ≤ maxLen ∧ m.funs.length ≤ maxLen ∧ m.main.length ≤ maxLen ∧ (∀ x ∈ m.uses, x.size ≤ maxLen) ∧ m.uses.length ≤ k1) ∧ IsWds w lo n a1 m.uses ∧ IsFuns (IsFun w lo n h) w lo n a2 m.funs ∧ IsKids (IsE w lo n h) w lo n a3 m.main
theorem IsMod.same {w w' : World} {lo n lo' n' : Nat} (h : Nat) (hs : Same lo n w w') (hl : lo' ≤ lo) (hn : n ≤ n') (v : Value) (m : TM) (hM : IsMod w lo n h v m) : IsMod w' lo' n' h v m := by
  obtain ⟨a1, a2, a3, k1, k2, k3, hv, hz, q1, q2, q3⟩ := hM
  exact ⟨a1, a2, a3, k1, k2, k3, hv, hz, q1.same hs hl hn, q2.mono (fun v e he => IsFun.same h hs hl hn v e he) hs hl hn, q3.mono (IsE.same hs hl hn h) hs hl hn⟩
theorem IsMod.kept {w w' : World} {lo n m : Nat} (h : Nat) (hb : Below n w w') (hnm : n ≤ m) (v : Value) (x : TM) (hM : IsMod w lo n h v x) : IsMod w' lo m h v x := IsMod.same h (Below.same hb) (Nat.le_refl _) hnm v x hM

set_option maxHeartbeats 1000000 in
theorem szTreeMod_any (lo h : Nat) (v : Value) (m : TM) (w : World) (left : Int) (hM : IsMod w lo w.heap.size h v m) (h0 : 0 ≤ left) (h1 : left ≤ 1048576) :
    Calls Tryz.prog 14 #[v, .int .i64 left] w fun r w' => r = .returned (.int .i64 (leftI left m.wt)) ∧ Below w.heap.size w w' := by
  obtain ⟨us, fs, mn⟩ := m
  obtain ⟨a1, a2, a3, k1, k2, k3, rfl, ⟨z1, z2, z3, z4, z5⟩, q1, q2, q3⟩ := hM
  dsimp only at z1 z2 z3 z4 q1 q2 q3 ⊢
  have HA := hide (fun (w' : World) (left : Int) (hb : Below w.heap.size w w') => szWds_any lo a1 k1 us w' left (q1.kept hb hb.size) z1 z4)
  have HC := hide (fun (w' : World) (left : Int) (hb : Below w.heap.size w w') => szTreeFunS_of lo h (szTreeFun_any lo h) a2 k2 fs w' left (q2.kept hb hb.size) z2)
  have HE := hide (fun (w' : World) (left : Int) (hb : Below w.heap.size w w') => szTreeExprS_of lo h (szTreeExpr_any lo h) a3 k3 mn w' left (q3.kept hb hb.size) z3)
  show Calls Tryz.prog 14 #[.agg #[.slice a1 us.length k1, .slice a2 fs.length k2, .slice a3 mn.length k3], .int .i64 left] w fun r w' => r = .returned (.int .i64 (leftI left ((us.length + wtWds us) + (fs.length + wtFuns fs) + (mn.length + wtL mn)))) ∧ Below w.heap.size w w'
  generalize us.length + wtWds us = A at HA ⊢
  generalize fs.length + wtFuns fs = C at HC ⊢
  generalize mn.length + wtL mn = E at HE ⊢
  unfold maxLen at z1 z2 z3
  clear z4 z5 q1 q2 q3
  go_enter Tryz.func14, Tryz.ntmps14
  go_wp2_with fail
  refine (unhide HA _ _ ((Below.refl _ _).alloc (Nat.le_refl _) _) (by omega) (by omega)).mono ?_
  rintro r w2 ⟨rfl, hb2⟩
  have hB2 := ((Below.refl w.heap.size w).alloc (Nat.le_refl _) _).trans (hb2.mono (by simp))
  have hcc : ∀ i, w2.cell? ⟨w.heap.size, i, none⟩ = (#[Value.slice a1 us.length k1, .slice a2 fs.length k2, .slice a3 mn.length k3] : Array Value)[i]? := fun i => (hb2.cell (p := ⟨w.heap.size, i, none⟩) (by simp)).trans (alloc_cell _ _ _ _)
  have p1 : w2.cell? ⟨w.heap.size, 1, none⟩ = some (.slice a2 fs.length k2) := hcc 1
  have p2 : w2.cell? ⟨w.heap.size, 2, none⟩ = some (.slice a3 mn.length k3) := hcc 2
  have hz2 : w.heap.size < w2.heap.size := by have := hb2.size; rw [alloc_size] at this; omega
  have HB2 := hide hB2
  have HZ2 := hide hz2
  clear hb2 hB2 hcc hz2
  by_cases hw : (A : Int) ≤ left
  · have el : leftI left A = (left - A) := left_yes hw
    obtain ⟨M, hM⟩ := Int.eq_ofNat_of_zero_le (show 0 ≤ left - A by omega)
    rw [el, hM]
    have hM2 : M ≤ 1048576 := by omega
    clear el
    go_wp2_with fail
    refine (unhide HC _ _ (unhide HB2) (by omega) (by omega)).mono ?_
    rintro r w3 ⟨rfl, hb3⟩
    have r2 : w3.cell? ⟨w.heap.size, 2, none⟩ = some (.slice a3 mn.length k3) := (hb3.cell (p := ⟨w.heap.size, 2, none⟩) (unhide HZ2)).trans p2
    have HB3 := hide ((unhide HB2).trans (hb3.mono (unhide HB2).size))
    clear hb3 HB2 p1 p2 HZ2
    by_cases hw2 : C ≤ M
    · have el : leftI (M : Int) C = ((M - C : Nat) : Int) := by rw [left_yes (by omega)]; omega
      rw [el]
      obtain ⟨K, hK⟩ : ∃ K, M - C = K := ⟨_, rfl⟩
      rw [hK]
      have hK2 : K ≤ 1048576 := by omega
      clear el
      go_wp2_with fail
      refine (unhide HE _ _ (unhide HB3) (by omega) (by omega)).mono ?_
      rintro r w4 ⟨rfl, hb4⟩
      have HB4 := hide ((unhide HB3).trans (hb4.mono (unhide HB3).size))
      clear hb4 HB3 r2
      by_cases hw3 : E ≤ K
      · have el : leftI (K : Int) E = ((K - E : Nat) : Int) := by rw [left_yes (by omega)]; omega
        have HF : Hid (leftI left (A + C + E) = ((K - E : Nat) : Int)) := hide (by rw [left_yes (by omega)]; omega)
        rw [el]
        obtain ⟨J, hJ⟩ : ∃ J, K - E = J := ⟨_, rfl⟩
        rw [hJ] at HF ⊢
        clear el hw3 hJ hM hK
        go_wp2
        go_ret
        exact ⟨ret_int (unhide HF).symm, unhide HB4⟩
      · have el : leftI (K : Int) E = -1 := left_no (by omega)
        have HF : Hid (leftI left (A + C + E) = -1) := hide (left_no (by omega))
        rw [el]
        clear el hw3 hM hK
        go_wp2
        go_ret
        exact ⟨ret_int (unhide HF).symm, unhide HB4⟩
    · have el : leftI (M : Int) C = -1 := left_no (by omega)
      have HF : Hid (leftI left (A + C + E) = -1) := hide (left_no (by omega))
      rw [el]
      clear el hw2 hM
      go_wp2
      go_ret
      exact ⟨ret_int (unhide HF).symm, unhide HB3⟩
  · have el : leftI left A = -1 := left_no (by omega)
    have HF : Hid (leftI left (A + C + E) = -1) := hide (left_no (by omega))
    rw [el]
    clear el hw
    go_wp2
    go_ret
    exact ⟨ret_int (unhide HF).symm, unhide HB2⟩

set_option maxHeartbeats 1000000 in
theorem eqTreeMod_any (lo lo' h h' : Nat) (v v' : Value) (m : TM) (w : World) (hM : IsMod w lo w.heap.size h v m) (hM' : IsMod w lo' w.heap.size h' v' m) :
    Calls Tryz.prog 22 #[v, v'] w fun r w' => r = .returned (.bool true) ∧ Below w.heap.size w w' := by
  obtain ⟨us, fs, mn⟩ := m
  obtain ⟨a1, a2, a3, k1, k2, k3, rfl, ⟨z1, z2, z3, z4, z5⟩, q1, q2, q3⟩ := hM
  obtain ⟨a1', a2', a3', k1', k2', k3', rfl, _, q1', q2', q3'⟩ := hM'
  dsimp only at z1 z2 z3 q1 q2 q3 q1' q2' q3' ⊢
  have HA := hide (fun (w' : World) (hb : Below w.heap.size w w') => eqWds_any lo lo' a1 a1' k1 k1' us w' z1 (q1.kept hb hb.size) (q1'.kept hb hb.size))
  have HC := hide (fun (w' : World) (hb : Below w.heap.size w w') => eqTreeFunS_of lo lo' h h' (eqTreeFun_any lo lo' h h') a2 a2' k2 k2' fs w' z2 (q2.kept hb hb.size) (q2'.kept hb hb.size))
  have HE := hide (fun (w' : World) (hb : Below w.heap.size w w') => eqTreeExprS_of lo lo' h (eqTreeExpr_any lo lo' h) a3 a3' k3 k3' mn w' h' z3 (q3.kept hb hb.size) (q3'.kept hb hb.size))
  clear z1 z2 z3 z4 z5 q1 q2 q3 q1' q2' q3'
  go_enter Tryz.func22, Tryz.ntmps22
  go_wp2_with fail
  refine (unhide HA _ (((Below.refl _ w).alloc (Nat.le_refl _) _).alloc (by simp) _)).mono ?_
  rintro r w2 ⟨rfl, hb2⟩
  have hB2 := ((((Below.refl w.heap.size w).alloc (Nat.le_refl _) _).alloc (by simp) _).trans (hb2.mono (by simp; omega)))
  have n1 : Blk w2 w.heap.size [Value.slice a1 us.length k1, .slice a2 fs.length k2, .slice a3 mn.length k3] := ((Blk.new w [Value.slice a1 us.length k1, .slice a2 fs.length k2, .slice a3 mn.length k3] 27).old _ (by simp)).below hb2 (by simp; omega)
  have n2 : Blk w2 (w.heap.size + 1) [Value.slice a1' us.length k1', .slice a2' fs.length k2', .slice a3' mn.length k3'] := by
    have := (Blk.new (w.alloc (.cells #[Value.slice a1 us.length k1, .slice a2 fs.length k2, .slice a3 mn.length k3] 27)) [Value.slice a1' us.length k1', .slice a2' fs.length k2', .slice a3' mn.length k3'] 27).below hb2 (by simp)
    rw [alloc_size] at this
    exact this
  have hz2 : w.heap.size + 2 ≤ w2.heap.size := by have := hb2.size; rw [alloc_size, alloc_size] at this; omega
  have p1 : w2.cell? ⟨w.heap.size, 1, none⟩ = some (.slice a2 fs.length k2) := n1.1 1
  have r1 : w2.cell? ⟨w.heap.size + 1, 1, none⟩ = some (.slice a2' fs.length k2') := n2.1 1
  have HB2 := hide hB2
  have HZ2 := hide hz2
  have N1 := hide n1
  have N2 := hide n2
  clear hb2 hB2 n1 n2 hz2
  go_wp2_with fail
  refine (unhide HC _ (unhide HB2)).mono ?_
  rintro r w3 ⟨rfl, hb3⟩
  have p2 : w3.cell? ⟨w.heap.size, 2, none⟩ = some (.slice a3 mn.length k3) := ((unhide N1).below hb3 (by have := unhide HZ2; omega)).1 2
  have r2 : w3.cell? ⟨w.heap.size + 1, 2, none⟩ = some (.slice a3' mn.length k3') := ((unhide N2).below hb3 (by have := unhide HZ2; omega)).1 2
  have HB3 := hide ((unhide HB2).trans (hb3.mono (unhide HB2).size))
  clear hb3 HB2 p1 r1 N1 N2 HZ2
  go_wp2_with fail
  refine (unhide HE _ (unhide HB3)).mono ?_
  rintro r w4 ⟨rfl, hb4⟩
  have HB4 := hide ((unhide HB3).trans (hb4.mono (unhide HB3).size))
  clear hb4 HB3
  go_wp2
  go_ret
  exact ⟨rfl, unhide HB4⟩
end Go.Proofs.YtgmohnbjfemebaaGreatDoor
