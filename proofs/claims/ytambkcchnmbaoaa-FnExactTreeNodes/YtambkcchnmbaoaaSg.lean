/- The walks of treeLot.nodes, treeLot.depth, impl.TreeNodes and of the law on TreeNodes. Conditions: the tree can be read. -/
import Derived.Test.YtambkcchnmbaoaaSf
namespace Go.Proofs.Ytambkcchnmbaoaa
open Go.RowKit Go.PlainAid

theorem IsS.kept {w w' : World} {h lo n : Nat} {v : Value} {e : TE} (hE : IsS w h lo n v e) (hb : Below n w w') : IsS w' h lo n v e := IsS.same h lo n lo n v e (fun b _ h2 => hb.block b h2) (Nat.le_refl _) (Nat.le_refl _) hE
set_option maxRecDepth 100000 in
set_option maxHeartbeats 1000000 in
theorem nodes_any (h lo n : Nat) (v : Value) (e : TE) (w : World) (hE : IsS w h lo n v e) (hn : n ≤ w.heap.size) (hN : e.nodes ≤ 1048577) :
    Calls Try.prog 86 #[v] w fun r w' => r = .returned (.int .i64 e.nodes) ∧ Below w.heap.size w w' := by
  have HS := hide (fun (W : World) (hb : Below w.heap.size w W) => span_any h lo n v e W (hE.kept (hb.mono hn)) (by have := hb.size; omega) hN)
  obtain ⟨k, m, nm, md, a, len, cap, rfl⟩ := (IsS.toE _ _ _ _ _ hE).form
  clear hE hN
  go_enter Try.func86, Try.ntmps86
  go_wp2_with fail
  refine (unhide HS _ ((Below.refl _ _).alloc (Nat.le_refl _) _)).mono ?_
  rintro r w2 ⟨rfl, hb2⟩
  have HB2 := hide (((Below.refl w.heap.size w).alloc (Nat.le_refl _) _).trans (hb2.mono (by simp)))
  clear hb2
  go_wp2
  go_ret
  exact ⟨rfl, unhide HB2⟩
set_option maxRecDepth 100000 in
set_option maxHeartbeats 1000000 in
theorem depth_any (h lo n : Nat) (v : Value) (e : TE) (w : World) (hE : IsS w h lo n v e) (hn : n ≤ w.heap.size) (hN : e.nodes ≤ 1048577) :
    Calls Try.prog 85 #[v] w fun r w' => r = .returned (.int .i64 e.deep) ∧ Below w.heap.size w w' := by
  have HS := hide (fun (W : World) (hb : Below w.heap.size w W) => span_any h lo n v e W (hE.kept (hb.mono hn)) (by have := hb.size; omega) hN)
  obtain ⟨k, m, nm, md, a, len, cap, rfl⟩ := (IsS.toE _ _ _ _ _ hE).form
  clear hE hN
  go_enter Try.func85, Try.ntmps85
  go_wp2_with fail
  refine (unhide HS _ ((Below.refl _ _).alloc (Nat.le_refl _) _)).mono ?_
  rintro r w2 ⟨rfl, hb2⟩
  have HB2 := hide (((Below.refl w.heap.size w).alloc (Nat.le_refl _) _).trans (hb2.mono (by simp)))
  clear hb2
  go_wp2
  go_ret
  exact ⟨rfl, unhide HB2⟩

/-- An interface value of the type T that holds v: its nodes and its depth. -/
def SpanOf (T : Nat) (v : Value) : Prop := (∀ W, (method 243 T v "loop.example/smithy/impl.nodes").run Try.prog W = .ok (86, v) W) ∧ (∀ W, (method 243 T v "loop.example/smithy/impl.depth").run Try.prog W = .ok (85, v) W)
set_option maxRecDepth 100000 in
set_option maxHeartbeats 2000000 in
theorem kindSpan_any (k m : Int) (nm md : ByteArray) (a : Option Addr) (len cap : Nat) (w : World) :
    Calls Try.prog 27 #[EV k m nm md a len cap] w fun r w' => ∃ T, r = .returned (.iface T (EV k m nm md a len cap)) ∧ SpanOf T (EV k m nm md a len cap) ∧ Below w.heap.size w w' := by
  have hk : k = 1 ∨ k = 2 ∨ k = 3 ∨ k = 4 ∨ k = 5 ∨ k = 6 ∨ k = 7 ∨ k = 8 ∨ ((k == 1) = false ∧ (k == 2) = false ∧ (k == 3) = false ∧ (k == 4) = false ∧ (k == 5) = false ∧ (k == 6) = false ∧ (k == 7) = false ∧ (k == 8) = false) := by
    simp only [beq_eq_false_iff_ne]; omega
  rcases hk with rfl | rfl | rfl | rfl | rfl | rfl | rfl | rfl | ⟨n1, n2, n3, n4, n5, n6, n7, n8⟩
  all_goals
    go_enter Try.func27, Try.ntmps27
    go_wp2
    go_ret
    exact ⟨_, rfl, ⟨fun _ => by kernel_rfl, fun _ => by kernel_rfl⟩, ((Below.refl _ _).alloc (Nat.le_refl _) _).alloc (by simp) _⟩

set_option maxRecDepth 100000 in
set_option maxHeartbeats 2000000 in
theorem TreeNodesI_any (h lo n : Nat) (v : Value) (e : TE) (w : World) (hE : IsS w h lo n v e) (hn : n ≤ w.heap.size) (hN : e.nodes ≤ 1048577) :
    Calls Try.prog 15 #[v] w fun r w' => r = .returned (.tuple #[.int .i64 e.nodes, .int .i64 e.deep]) ∧ Below w.heap.size w w' := by
  have HS := hide (fun (W : World) (hb : Below w.heap.size w W) => nodes_any h lo n v e W (hE.kept (hb.mono hn)) (by have := hb.size; omega) hN)
  have HD := hide (fun (W : World) (hb : Below w.heap.size w W) => depth_any h lo n v e W (hE.kept (hb.mono hn)) (by have := hb.size; omega) hN)
  obtain ⟨k, m, nm, md, a, len, cap, rfl⟩ := (IsS.toE _ _ _ _ _ hE).form
  clear hE hN
  go_enter Try.func15, Try.ntmps15
  go_wp2_with fail
  refine (kindSpan_any k m nm md a len cap _).mono ?_
  rintro r w2 ⟨T, rfl, ⟨h1, h2⟩, hb2⟩
  have hm1 : ∀ W, (method 243 T (.agg #[.int .i64 k, .int .i64 m, .string nm, .string md, .slice a len cap]) "loop.example/smithy/impl.nodes").run Try.prog W = .ok (86, .agg #[.int .i64 k, .int .i64 m, .string nm, .string md, .slice a len cap]) W := h1
  have hm2 : ∀ W, (method 243 T (.agg #[.int .i64 k, .int .i64 m, .string nm, .string md, .slice a len cap]) "loop.example/smithy/impl.depth").run Try.prog W = .ok (85, .agg #[.int .i64 k, .int .i64 m, .string nm, .string md, .slice a len cap]) W := h2
  have HB2 := hide (((Below.refl w.heap.size w).alloc (Nat.le_refl _) _).trans (hb2.mono (by simp)))
  clear hb2 h1 h2
  go_wp2_with fail
  refine (unhide HS _ (unhide HB2)).mono ?_
  rintro r w3 ⟨rfl, hb3⟩
  have HB3 := hide ((unhide HB2).trans (hb3.mono (unhide HB2).size))
  clear hb3
  go_wp2_with fail
  refine (unhide HD _ (unhide HB3)).mono ?_
  rintro r w4 ⟨rfl, hb4⟩
  have HB4 := hide ((unhide HB3).trans (hb4.mono (unhide HB3).size))
  clear hb4 hm1 hm2
  go_wp2
  go_ret2
  exact ⟨rfl, unhide HB4⟩
theorem wtE_of_left {n : Nat} (h : ¬ leftI 1048576 n < 0) : n ≤ 1048576 := by
  unfold leftI at h
  by_cases g : (n : Int) ≤ 1048576
  · omega
  · rw [if_neg g] at h; omega

set_option maxRecDepth 100000 in
set_option maxHeartbeats 8000000 in
theorem fnExactTreeNodes_walk (h : Nat) (v : Value) (e : TE) (w : World) (hE : IsE w 0 w.heap.size h v e) :
    Calls Try.prog 5 #[v] w fun r w' => r = .returned (.bool true) ∧ Below w.heap.size w w' := by
  have HE := hide hE
  obtain ⟨k, m, nm, md, a, len, cap, rfl⟩ := hE.form
  have HSZ := hide (fun (W : World) (hb : Below w.heap.size w W) => szTreeExpr_any 0 h _ e W 1048576 (IsE.kept hb hb.size h _ _ hE) (by omega) (by omega))
  clear hE
  go_enter Try.func5, Try.ntmps5
  go_wp2_with fail
  refine (unhide HSZ _ ((Below.refl _ _).alloc (Nat.le_refl _) _)).mono ?_
  rintro r w1 ⟨rfl, hb1⟩
  have hB1 : Below w.heap.size w w1 := ((Below.refl _ w).alloc (Nat.le_refl _) _).trans (hb1.mono (by simp))
  have n1 : Blk w1 w.heap.size [.int .i64 k, .int .i64 m, .string nm, .string md, .slice a len cap] := (Blk.new w [.int .i64 k, .int .i64 m, .string nm, .string md, .slice a len cap] 28).below hb1 (by simp)
  have hs1 : w.heap.size < w1.heap.size := by have := hb1.size; rw [alloc_size] at this; omega
  have p0 := n1.cellAt (i := 0) rfl
  have p1 := n1.cellAt (i := 1) rfl
  have p2 := n1.cellAt (i := 2) rfl
  have p3 := n1.cellAt (i := 3) rfl
  have p4 := n1.cellAt (i := 4) rfl
  have N1 := hide n1
  have HB1 := hide hB1
  clear n1 hb1 hB1 HSZ
  by_cases hlt : leftI 1048576 e.wt < 0
  · generalize leftI 1048576 e.wt = L at hlt
    go_wp2
    go_ret
    exact ⟨rfl, unhide HB1⟩
  have hwt := wtE_of_left hlt
  generalize leftI 1048576 e.wt = L at hlt
  have hnn : e.nodes ≤ 1048577 := by have := nodes_wt e; omega
  have HTO := hide (fun (W : World) (hb : Below w.heap.size w W) => toTreeExpr_sep 0 h _ e W (IsE.kept hb hb.size h _ _ (unhide HE)) hwt)
  have HS := hide (fun (W : World) (lo : Nat) (v : Value) (hh : IsE W lo W.heap.size h v e) => TreeNodesS_any lo h v e W hh hnn)
  have HI := hide (fun (W : World) (lo n : Nat) (v : Value) (hh : IsS W h lo n v e) (hn : n ≤ W.heap.size) => TreeNodesI_any h lo n v e W hh hn hnn)
  obtain ⟨En, hEn⟩ : ∃ E, e.nodes = E := ⟨_, rfl⟩
  obtain ⟨Ed, hEd⟩ : ∃ E, e.deep = E := ⟨_, rfl⟩
  simp only [hEn, hEd] at HS HI
  clear hwt HE hnn hEn hEd
  go_wp2_with fail
  refine (unhide HTO _ (unhide HB1)).mono ?_
  rintro r w2 ⟨c0, c1, c2, c3, c4, rfl, hM2, hb2⟩
  obtain ⟨xk, xm, xn, xd, xa, xl, xc, rfl, rfl, rfl, rfl, rfl⟩ := (IsS.toE _ _ _ _ _ hM2).form5
  have hB2 := (unhide HB1).trans (hb2.mono (unhide HB1).size)
  have n2 := (unhide N1).below hb2 hs1
  have hs2 : w.heap.size < w2.heap.size := by have := hb2.size; omega
  have HM2 := hide (IsS.toE _ _ _ _ _ hM2)
  have HB2 := hide hB2
  have N2 := hide n2
  clear hb2 hB2 n2 hM2 N1 HB1 p0 p1 p2 p3 p4 hs1
  go_wp2_with fail
  refine (unhide HS _ _ _ (unhide HM2)).mono ?_
  rintro r w3 ⟨rfl, hb3⟩
  have hB3 := (unhide HB2).trans (hb3.mono (unhide HB2).size)
  have n3 := (unhide N2).below hb3 hs2
  have hs3 : w.heap.size < w3.heap.size := by have := hb3.size; omega
  have p0 := n3.cellAt (i := 0) rfl
  have p1 := n3.cellAt (i := 1) rfl
  have p2 := n3.cellAt (i := 2) rfl
  have p3 := n3.cellAt (i := 3) rfl
  have p4 := n3.cellAt (i := 4) rfl
  have HB3 := hide hB3
  have N3 := hide n3
  clear hb3 hB3 n3 HM2 N2 HB2 hs2 HS
  go_wp2_with fail
  refine (unhide HTO _ (unhide HB3)).mono ?_
  rintro r w4 ⟨c0, c1, c2, c3, c4, rfl, hM4, hb4⟩
  obtain ⟨yk, ym, yn, yd, ya, yl, yc, rfl, rfl, rfl, rfl, rfl⟩ := (IsS.toE _ _ _ _ _ hM4).form5
  have hB4 := (unhide HB3).trans (hb4.mono (unhide HB3).size)
  have n4 := (unhide N3).below hb4 hs3
  have hs4 : w.heap.size < w4.heap.size := by have := hb4.size; omega
  have HM4 := hide hM4
  have HB4 := hide hB4
  have N4 := hide n4
  have HOKI := hide (fun (W : World) (hb : Below w4.heap.size w4 W) => unhide HI W _ _ _ ((unhide HM4).kept hb) hb.size)
  clear hb4 hB4 n4 hM4 N3 HB3 hs3 p0 p1 p2 p3 p4
  go_wp2_with fail
  refine (unhide HOKI _ ?hb).mono ?_
  case hb => exact (Below.refl _ _).alloc (Nat.le_refl _) _
  rintro r w5 ⟨rfl, hb5⟩
  have hb45 : Below w4.heap.size w4 w5 := ((Below.refl _ w4).alloc (Nat.le_refl _) _).trans (hb5.mono (by simp))
  have hB5 := (unhide HB4).trans (hb45.mono (unhide HB4).size)
  have n5 := (unhide N4).below hb45 hs4
  have x5 : Blk w5 w4.heap.size [.int .i64 yk, .int .i64 ym, .string yn, .string yd, .slice ya yl yc] := (Blk.new w4 [.int .i64 yk, .int .i64 ym, .string yn, .string yd, .slice ya yl yc] 34).below hb5 (by simp)
  have hs45 : w4.heap.size < w5.heap.size := by have := hb5.size; rw [alloc_size] at this; omega
  have hM5 := IsE.kept hb45 hb45.size h _ _ (IsS.toE _ _ _ _ _ (unhide HM4))
  have HEQ : Hid (∀ (W : World) (lo' : Nat) (v' : Value), Below w5.heap.size w5 W → IsE W lo' W.heap.size h v' e → Calls Try.prog 16 #[.agg #[.int .i64 yk, .int .i64 ym, .string yn, .string yd, .slice ya yl yc], v'] W fun r w' => r = .returned (.bool true) ∧ Below W.heap.size W w') := hide (fun W lo' v' hb hv => eqTreeExpr_any w3.heap.size lo' h _ v' e W h (IsE.kept hb hb.size h _ _ hM5) hv)
  have HTO5 := hide (fun (W : World) (hb : Below w5.heap.size w5 W) => unhide HTO W (hB5.trans (hb.mono hB5.size)))
  have q0 := n5.cellAt (i := 0) rfl
  have q1 := n5.cellAt (i := 1) rfl
  have q2 := n5.cellAt (i := 2) rfl
  have q3 := n5.cellAt (i := 3) rfl
  have q4 := n5.cellAt (i := 4) rfl
  have s0 := x5.cellAt (i := 0) rfl
  have s1 := x5.cellAt (i := 1) rfl
  have s2 := x5.cellAt (i := 2) rfl
  have s3 := x5.cellAt (i := 3) rfl
  have s4 := x5.cellAt (i := 4) rfl
  have HB5 := hide hB5
  have X5 := hide x5
  have hq : (((En : Nat) : Int) != (En : Int)) = false := by simp
  have hq2 : (((Ed : Nat) : Int) != (Ed : Int)) = false := by simp
  clear hb5 hb45 hB5 n5 x5 hM5 HM4 N4 HB4 hs4 HOKI HTO HI
  go_wp2
  go_region_with (first | (go_at_call 14; refine (unhide HTO5 _ (Below.refl _ _).drew).mono ?_; rintro r w6 ⟨c0, c1, c2, c3, c4, rfl, hM6, hb6⟩; have n6 := ((unhide X5).below (Below.refl _ _).drew hs45).below hb6 (by exact hs45); have z0 := n6.cellAt (i := 0) rfl; have z1 := n6.cellAt (i := 1) rfl; have z2 := n6.cellAt (i := 2) rfl; have z3 := n6.cellAt (i := 3) rfl; have z4 := n6.cellAt (i := 4) rfl) | (go_at_call 16; refine (unhide HEQ _ _ _ (by exact (Below.refl _ _).drew.trans hb6) (IsS.toE _ _ _ _ _ hM6)).mono ?_; rintro r w7 ⟨rfl, hb7⟩))
  all_goals
    go_wp2
    go_ret
    exact ⟨rfl, (unhide HB5).trans (((Below.refl _ w5).drew.trans (hb6.trans (hb7.mono hb6.size))).mono (unhide HB5).size)⟩
end Go.Proofs.Ytambkcchnmbaoaa
