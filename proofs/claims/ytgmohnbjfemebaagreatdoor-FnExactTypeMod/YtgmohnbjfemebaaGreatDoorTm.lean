/- The walks of szTreeFun and eqTreeFun. No conditions. -/
import Derived.Test.YtgmohnbjfemebaaGreatDoorTl
namespace Go.Proofs.YtgmohnbjfemebaaGreatDoor
open Go.RowKit Go.PlainAid

theorem alloc_cell (w : World) (C : Array Value) (t : TypeId) (i : Nat) : (w.alloc (.cells C t)).cell? ⟨w.heap.size, i, none⟩ = C[i]? := World.cell?_alloc_new ..
set_option maxHeartbeats 1000000 in
theorem szTreeFun_any (lo h : Nat) : SzFun lo h := by
  intro v f w left hF h0 h1
  obtain ⟨nm, pub, args, ty, body⟩ := f
  obtain ⟨aa, ca, b0, b1, b2, b3, b4, rfl, ⟨hs1, hs2⟩, ha, hE⟩ := hF
  dsimp only at hs1 hs2 ha hE ⊢
  have HA := hide (fun (w' : World) (left : Int) (hb : Below w.heap.size w w') => szTreeArgS_of lo (szTreeArg_any lo) aa ca args w' left (ha.kept hb hb.size) hs2)
  have HE := hide (fun (w' : World) (left : Int) (hb : Below w.heap.size w w') => szTreeExpr_any lo h _ body w' left (IsE.kept hb hb.size h _ _ hE))
  unfold maxLen at hs1 hs2
  show Calls Tryz.prog 94 #[.agg #[.string nm, .bool pub, .slice aa args.length ca, .int .i64 ty, b0, b1, b2, b3, b4], .int .i64 left] w fun r w' => r = .returned (.int .i64 (leftI left (nm.size + (args.length + wtArgs args) + body.wt))) ∧ Below w.heap.size w w'
  generalize args.length + wtArgs args = A at HA ⊢
  generalize body.wt = Bw at HE ⊢
  clear ha hE
  by_cases g1 : left < (nm.size : Int)
  · have HF := hide (left_no (left := left) (n := nm.size + A + Bw) (by omega))
    go_enter Tryz.func94, Tryz.ntmps94
    go_wp2
    go_ret
    exact ⟨ret_int (unhide HF).symm, (Below.refl _ _).alloc (Nat.le_refl _) _⟩
  obtain ⟨L, hL⟩ := Int.eq_ofNat_of_zero_le (show 0 ≤ left - nm.size by omega)
  have hL2 : L ≤ 1048576 := by omega
  go_enter Tryz.func94, Tryz.ntmps94
  go_wp2_with fail
  refine (unhide HA _ _ ((Below.refl _ _).alloc (Nat.le_refl _) _) (by omega) (by omega)).mono ?_
  rintro r w2 ⟨rfl, hb2⟩
  have hB2 := ((Below.refl w.heap.size w).alloc (Nat.le_refl _) _).trans (hb2.mono (by simp))
  have hcc : ∀ i, w2.cell? ⟨w.heap.size, i, none⟩ = (#[Value.string nm, .bool pub, .slice aa args.length ca, .int .i64 ty, b0, b1, b2, b3, b4] : Array Value)[i]? := fun i => (hb2.cell (p := ⟨w.heap.size, i, none⟩) (by simp)).trans (alloc_cell _ _ _ _)
  have p4 : w2.cell? ⟨w.heap.size, 4, none⟩ = some b0 := hcc 4
  have p5 : w2.cell? ⟨w.heap.size, 5, none⟩ = some b1 := hcc 5
  have p6 : w2.cell? ⟨w.heap.size, 6, none⟩ = some b2 := hcc 6
  have p7 : w2.cell? ⟨w.heap.size, 7, none⟩ = some b3 := hcc 7
  have p8 : w2.cell? ⟨w.heap.size, 8, none⟩ = some b4 := hcc 8
  have HB2 := hide hB2
  clear hb2 hB2 hcc
  by_cases hw : A ≤ L
  · have el : leftI (L : Int) A = ((L - A : Nat) : Int) := by rw [left_yes (by omega)]; omega
    rw [el]
    obtain ⟨M, hM⟩ : ∃ M, L - A = M := ⟨_, rfl⟩
    rw [hM]
    have hM2 : M ≤ 1048576 := by omega
    clear el
    go_wp2_with fail
    refine (unhide HE _ _ (unhide HB2) (by omega) (by omega)).mono ?_
    rintro r w3 ⟨rfl, hb3⟩
    have HB3 := hide ((unhide HB2).trans (hb3.mono (unhide HB2).size))
    clear hb3 HB2
    by_cases hw2 : Bw ≤ M
    · have el : leftI (M : Int) Bw = ((M - Bw : Nat) : Int) := by rw [left_yes (by omega)]; omega
      have HF : Hid (leftI left (nm.size + A + Bw) = ((M - Bw : Nat) : Int)) := hide (by rw [left_yes (by omega)]; omega)
      rw [el]
      obtain ⟨K, hK⟩ : ∃ K, M - Bw = K := ⟨_, rfl⟩
      rw [hK] at HF ⊢
      clear el hw2 hK
      go_wp2
      go_ret
      exact ⟨ret_int (unhide HF).symm, unhide HB3⟩
    · have el : leftI (M : Int) Bw = -1 := left_no (by omega)
      have HF : Hid (leftI left (nm.size + A + Bw) = -1) := hide (left_no (by omega))
      rw [el]
      clear el hw2
      go_wp2
      go_ret
      exact ⟨ret_int (unhide HF).symm, unhide HB3⟩
  · have el : leftI (L : Int) A = -1 := left_no (by omega)
    have HF : Hid (leftI left (nm.size + A + Bw) = -1) := hide (left_no (by omega))
    rw [el]
    clear el hw
    go_wp2
    go_ret
    exact ⟨ret_int (unhide HF).symm, unhide HB2⟩

set_option maxHeartbeats 1000000 in
theorem eqTreeFun_any (lo lo' h h' : Nat) : EqFun lo lo' h h' := by
  intro v v' f w hF hF'
  obtain ⟨nm, pub, args, ty, body⟩ := f
  obtain ⟨aa, ca, b0, b1, b2, b3, b4, rfl, ⟨hs1, hs2⟩, ha, hE⟩ := hF
  obtain ⟨aa', ca', b0', b1', b2', b3', b4', rfl, _, ha', hE'⟩ := hF'
  dsimp only at hs1 hs2 ha hE ha' hE' ⊢
  have HA := hide (fun (w' : World) (hb : Below w.heap.size w w') => eqTreeArgS_of lo lo' (eqTreeArg_any lo lo') aa aa' ca ca' args w' hs2 (ha.kept hb hb.size) (ha'.kept hb hb.size))
  have HE := hide (fun (w' : World) (hb : Below w.heap.size w w') => eqTreeExpr_any lo lo' h _ _ body w' h' (IsE.kept hb hb.size h _ _ hE) (IsE.kept hb hb.size h' _ _ hE'))
  clear ha hE ha' hE' hs1 hs2
  have q1 : (nm.toList != nm.toList) = false := by simp
  have q2 : (pub != pub) = false := by simp
  have q3 : (ty != ty) = false := by simp
  show Calls Tryz.prog 98 #[.agg #[.string nm, .bool pub, .slice aa args.length ca, .int .i64 ty, b0, b1, b2, b3, b4], .agg #[.string nm, .bool pub, .slice aa' args.length ca', .int .i64 ty, b0', b1', b2', b3', b4']] w fun r w' => r = .returned (.bool true) ∧ Below w.heap.size w w'
  go_enter Tryz.func98, Tryz.ntmps98
  go_wp2_with fail
  refine (unhide HA _ (((Below.refl _ w).alloc (Nat.le_refl _) _).alloc (by simp) _)).mono ?_
  rintro r w2 ⟨rfl, hb2⟩
  have hB2 := ((((Below.refl w.heap.size w).alloc (Nat.le_refl _) _).alloc (by simp) _).trans (hb2.mono (by simp; omega)))
  have hc1 : ∀ i, w2.cell? ⟨w.heap.size, i, none⟩ = (#[Value.string nm, .bool pub, .slice aa args.length ca, .int .i64 ty, b0, b1, b2, b3, b4] : Array Value)[i]? := fun i => (hb2.cell (p := ⟨w.heap.size, i, none⟩) (by simp; omega)).trans (((Below.refl _ _).alloc (Nat.le_refl _) _).cell (p := ⟨w.heap.size, i, none⟩) (by simp) |>.trans (alloc_cell _ _ _ _))
  have hc2 : ∀ i, w2.cell? ⟨w.heap.size + 1, i, none⟩ = (#[Value.string nm, .bool pub, .slice aa' args.length ca', .int .i64 ty, b0', b1', b2', b3', b4'] : Array Value)[i]? := fun i => (hb2.cell (p := ⟨w.heap.size + 1, i, none⟩) (by simp)).trans (by
    have := alloc_cell (w.alloc (.cells #[.string nm, .bool pub, .slice aa args.length ca, .int .i64 ty, b0, b1, b2, b3, b4] 108)) #[.string nm, .bool pub, .slice aa' args.length ca', .int .i64 ty, b0', b1', b2', b3', b4'] 108 i
    rw [alloc_size] at this
    exact this)
  have p3 : w2.cell? ⟨w.heap.size, 3, none⟩ = some (.int .i64 ty) := hc1 3
  have p4 : w2.cell? ⟨w.heap.size, 4, none⟩ = some b0 := hc1 4
  have p5 : w2.cell? ⟨w.heap.size, 5, none⟩ = some b1 := hc1 5
  have p6 : w2.cell? ⟨w.heap.size, 6, none⟩ = some b2 := hc1 6
  have p7 : w2.cell? ⟨w.heap.size, 7, none⟩ = some b3 := hc1 7
  have p8 : w2.cell? ⟨w.heap.size, 8, none⟩ = some b4 := hc1 8
  have r3 : w2.cell? ⟨w.heap.size + 1, 3, none⟩ = some (.int .i64 ty) := hc2 3
  have r4 : w2.cell? ⟨w.heap.size + 1, 4, none⟩ = some b0' := hc2 4
  have r5 : w2.cell? ⟨w.heap.size + 1, 5, none⟩ = some b1' := hc2 5
  have r6 : w2.cell? ⟨w.heap.size + 1, 6, none⟩ = some b2' := hc2 6
  have r7 : w2.cell? ⟨w.heap.size + 1, 7, none⟩ = some b3' := hc2 7
  have r8 : w2.cell? ⟨w.heap.size + 1, 8, none⟩ = some b4' := hc2 8
  have HB2 := hide hB2
  clear hb2 hB2 hc1 hc2
  go_wp2_with fail
  refine (unhide HE _ (unhide HB2)).mono ?_
  rintro r w3 ⟨rfl, hb3⟩
  have HB3 := hide ((unhide HB2).trans (hb3.mono (unhide HB2).size))
  clear hb3 HB2
  go_wp2
  go_ret
  exact ⟨rfl, unhide HB3⟩
end Go.Proofs.YtgmohnbjfemebaaGreatDoor
