/- The walk of the law on TreeOk: it returns true and turns nothing that was there. Conditions: the module can be read. -/
import Derived.Test.YtambkcchnmbaoaaVe
namespace Go.Proofs.Ytambkcchnmbaoaa
open Go.RowKit Go.PlainAid

theorem IsMod.form {w : World} {lo n h : Nat} {v : Value} {m : TM} (hM : IsMod w lo n h v m) : ∃ (a1 a2 a3 : Option Addr) (l1 l2 l3 k1 k2 k3 : Nat), v = .agg #[.slice a1 l1 k1, .slice a2 l2 k2, .slice a3 l3 k3] := by
  obtain ⟨a1, a2, a3, k1, k2, k3, hv, _⟩ := hM
  exact ⟨_, _, _, _, _, _, _, _, _, hv⟩
theorem wt_of_left {n : Nat} (h : ¬ leftI 1048576 n < 0) : n ≤ 1048576 := by
  unfold leftI at h
  by_cases g : (n : Int) ≤ 1048576
  · omega
  · rw [if_neg g] at h; omega

set_option maxRecDepth 100000 in
set_option maxHeartbeats 8000000 in
theorem fnExactTreeOk_walk (h : Nat) (v : Value) (m : TM) (w : World) (hM : IsMod w 0 w.heap.size h v m) :
    Calls Try.prog 6 #[v] w fun e w' => e = .returned (.bool true) ∧ Below w.heap.size w w' := by
  have HM := hide hM
  obtain ⟨a1, a2, a3, l1, l2, l3, k1, k2, k3, rfl⟩ := hM.form
  have HSZ := hide (fun (W : World) (hb : Below w.heap.size w W) => szTreeMod_any 0 h _ m W 1048576 (IsMod.kept h hb hb.size _ _ hM) (by omega) (by omega))
  clear hM
  go_enter Try.func6, Try.ntmps6
  go_wp2_with fail
  refine (unhide HSZ _ ((Below.refl _ _).alloc (Nat.le_refl _) _)).mono ?_
  rintro r w1 ⟨rfl, hb1⟩
  have hB1 : Below w.heap.size w w1 := ((Below.refl _ w).alloc (Nat.le_refl _) _).trans (hb1.mono (by simp))
  have n1 : Blk w1 w.heap.size [.slice a1 l1 k1, .slice a2 l2 k2, .slice a3 l3 k3] := (Blk.new w [.slice a1 l1 k1, .slice a2 l2 k2, .slice a3 l3 k3] 41).below hb1 (by simp)
  have hs1 : w.heap.size < w1.heap.size := by have := hb1.size; rw [alloc_size] at this; omega
  have p0 := n1.cellAt (i := 0) rfl
  have p1 := n1.cellAt (i := 1) rfl
  have p2 := n1.cellAt (i := 2) rfl
  have N1 := hide n1
  have HB1 := hide hB1
  clear n1 hb1 hB1 HSZ
  by_cases hlt : leftI 1048576 m.wt < 0
  · generalize leftI 1048576 m.wt = L at hlt
    go_wp2
    go_ret
    exact ⟨rfl, unhide HB1⟩
  have hwt := wt_of_left hlt
  generalize leftI 1048576 m.wt = L at hlt
  have HTO := hide (fun (W : World) (hb : Below w.heap.size w W) => toTreeMod_any 0 h _ m W (IsMod.kept h hb hb.size _ _ (unhide HM)) hwt)
  have HOKS := hide (fun (W : World) (lo : Nat) (v : Value) (hh : IsMod W lo W.heap.size h v m) => TreeOkS_any lo h v m W hh hwt)
  clear hwt HM
  go_wp2_with fail
  refine (unhide HTO _ (unhide HB1)).mono ?_
  rintro r w2 ⟨v2, rfl, hM2, hb2⟩
  obtain ⟨e1, e2, e3, f1, f2, f3, g1, g2, g3, rfl⟩ := hM2.form
  have hB2 := (unhide HB1).trans (hb2.mono (unhide HB1).size)
  have n2 := (unhide N1).below hb2 hs1
  have hs2 : w.heap.size < w2.heap.size := by have := hb2.size; omega
  have HM2 := hide hM2
  have HB2 := hide hB2
  have N2 := hide n2
  clear hb2 hB2 n2 hM2 N1 HB1 p0 p1 p2 hs1
  go_wp2_with fail
  refine (unhide HOKS _ _ _ (unhide HM2)).mono ?_
  rintro r w3 ⟨rfl, hb3⟩
  have hB3 := (unhide HB2).trans (hb3.mono (unhide HB2).size)
  have n3 := (unhide N2).below hb3 hs2
  have hs3 : w.heap.size < w3.heap.size := by have := hb3.size; omega
  have p0 := n3.cellAt (i := 0) rfl
  have p1 := n3.cellAt (i := 1) rfl
  have p2 := n3.cellAt (i := 2) rfl
  have HB3 := hide hB3
  have N3 := hide n3
  clear hb3 hB3 n3 HM2 N2 HB2 hs2 HOKS
  go_wp2_with fail
  refine (unhide HTO _ (unhide HB3)).mono ?_
  rintro r w4 ⟨v4, rfl, hM4, hb4⟩
  obtain ⟨x1, x2, x3, y1, y2, y3, t1, t2, t3, rfl⟩ := hM4.form
  have hB4 := (unhide HB3).trans (hb4.mono (unhide HB3).size)
  have n4 := (unhide N3).below hb4 hs3
  have hs4 : w.heap.size < w4.heap.size := by have := hb4.size; omega
  have HM4 := hide hM4
  have HB4 := hide hB4
  have N4 := hide n4
  have HOKI := hide (fun (W : World) (hb : Below w4.heap.size w4 W) => TreeOkI_any w3.heap.size h _ m W (IsMod.kept h hb hb.size _ _ (unhide HM4)))
  clear hb4 hB4 n4 hM4 N3 HB3 hs3 p0 p1 p2
  go_wp2_with fail
  refine (unhide HOKI _ ?hb).mono ?_
  case hb => exact (Below.refl _ _).alloc (Nat.le_refl _) _
  rintro r w5 ⟨rfl, hb5⟩
  have hb45 : Below w4.heap.size w4 w5 := ((Below.refl _ w4).alloc (Nat.le_refl _) _).trans (hb5.mono (by simp))
  have hB5 := (unhide HB4).trans (hb45.mono (unhide HB4).size)
  have n5 := (unhide N4).below hb45 hs4
  have x5 : Blk w5 w4.heap.size [.slice x1 y1 t1, .slice x2 y2 t2, .slice x3 y3 t3] := (Blk.new w4 [.slice x1 y1 t1, .slice x2 y2 t2, .slice x3 y3 t3] 46).below hb5 (by simp)
  have hs5 : w.heap.size < w5.heap.size := by have := hb45.size; omega
  have hs45 : w4.heap.size < w5.heap.size := by have := hb5.size; rw [alloc_size] at this; omega
  have hM5 := IsMod.kept h hb45 hb45.size _ _ (unhide HM4)
  have HEQ : Hid (∀ (W : World) (lo' : Nat) (v' : Value), Below w5.heap.size w5 W → IsMod W lo' W.heap.size h v' m → Calls Try.prog 21 #[.agg #[.slice x1 y1 t1, .slice x2 y2 t2, .slice x3 y3 t3], v'] W fun r w' => r = .returned (.bool true) ∧ Below W.heap.size W w') := hide (fun W lo' v' hb hv => eqTreeMod_any w3.heap.size lo' h h _ v' m W (IsMod.kept h hb hb.size _ _ hM5) hv)
  have HTO5 := hide (fun (W : World) (hb : Below w5.heap.size w5 W) => unhide HTO W (hB5.trans (hb.mono hB5.size)))
  have q0 := n5.cellAt (i := 0) rfl
  have q1 := n5.cellAt (i := 1) rfl
  have q2 := n5.cellAt (i := 2) rfl
  have s0 := x5.cellAt (i := 0) rfl
  have s1 := x5.cellAt (i := 1) rfl
  have s2 := x5.cellAt (i := 2) rfl
  have HB5 := hide hB5
  have N5 := hide n5
  have X5 := hide x5
  have hq : (m.okB != m.okB) = false := by simp
  clear hb5 hb45 hB5 n5 x5 hM5 HM4 N4 HB4 hs4 HOKI HTO
  go_wp2
  go_region_with (first | (go_at_call 19; refine (unhide HTO5 _ (Below.refl _ _).drew).mono ?_; rintro r w6 ⟨v6, rfl, hM6, hb6⟩; have n6 := ((unhide X5).below (Below.refl _ _).drew hs45).below hb6 (by exact hs45); have z0 := n6.cellAt (i := 0) rfl; have z1 := n6.cellAt (i := 1) rfl; have z2 := n6.cellAt (i := 2) rfl) | (go_at_call 21; refine (unhide HEQ _ _ _ (by exact (Below.refl _ _).drew.trans hb6) hM6).mono ?_; rintro r w7 ⟨rfl, hb7⟩))
  all_goals
    go_wp2
    go_ret
    exact ⟨rfl, (unhide HB5).trans (((Below.refl _ w5).drew.trans (hb6.trans (hb7.mono hb6.size))).mono (unhide HB5).size)⟩
end Go.Proofs.Ytambkcchnmbaoaa
