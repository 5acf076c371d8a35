/- The walk of the law on TreeSame: it returns true and turns nothing that was there. Conditions: the modules can be read; what treeSameExprs does. -/
import Derived.Test.YtambkcchnmbaoaaRm
import Derived.Deep.CutRange
namespace Go.Proofs.Ytambkcchnmbaoaa
open Go.RowKit Go.PlainAid

theorem mod_form {w : World} {lo n h : Nat} {v : Value} {m : TM} (hM : IsMod w lo n h v m) : ∃ (a1 a2 a3 : Option Addr) (l1 l2 l3 k1 k2 k3 : Nat), v = .agg #[.slice a1 l1 k1, .slice a2 l2 k2, .slice a3 l3 k3] := by
  obtain ⟨a1, a2, a3, k1, k2, k3, hv, _⟩ := hM
  exact ⟨_, _, _, _, _, _, _, _, _, hv⟩
theorem left_wt {n : Nat} (h : ¬ leftI 1048576 n < 0) : n ≤ 1048576 := by
  unfold leftI at h
  by_cases g : (n : Int) ≤ 1048576
  · omega
  · rw [if_neg g] at h; omega
theorem IsModS.toM {w : World} {lo n h : Nat} {v : Value} {m : TM} (hM : IsModS w lo n h v m) (hn : n = w.heap.size) : IsMod w lo n h v m := by
  obtain ⟨a1, a2, a3, k1, k2, k3, hv, hz, q1, q2, q3⟩ := hM
  subst hn
  exact ⟨a1, a2, a3, k1, k2, k3, hv, hz, q1, q2.mono (fun v e he => he.toF) (fun _ _ _ => rfl) (Nat.le_refl _) (Nat.le_refl _), q3.kids (Nat.le_refl _)⟩
theorem IsModS.kept {w w' : World} {lo n m : Nat} (h : Nat) (hb : Below n w w') (hnm : n ≤ m) (v : Value) (x : TM) (hM : IsModS w lo n h v x) : IsModS w' lo m h v x := by
  obtain ⟨a1, a2, a3, k1, k2, k3, hv, hz, q1, q2, q3⟩ := hM
  exact ⟨a1, a2, a3, k1, k2, k3, hv, hz, q1.kept hb hnm, keptS q2 hb hnm, (q3.same (Below.same hb)).mono (Nat.le_refl _) hnm⟩
theorem wtFuns_in : ∀ {l : List TF} {x : TF}, x ∈ l → x.wt ≤ wtFuns l
  | y :: t, x, hx => by
    have e : wtFuns (y :: t) = y.wt + wtFuns t := by simp [wtFuns]
    rw [e]
    rcases List.mem_cons.1 hx with h | h
    · subst h; omega
    · have := wtFuns_in h; omega
theorem mod_nodes {m : TM} (h : m.wt ≤ 1048576) : (∀ x ∈ m.funs, x.body.nodes ≤ 1048576) ∧ nodesL m.main ≤ 1048576 := by
  have h' : (m.uses.length + wtWds m.uses) + (m.funs.length + wtFuns m.funs) + (m.main.length + wtL m.main) ≤ 1048576 := h
  refine ⟨fun x hx => ?_, ?_⟩
  · have h1 := wtFuns_in hx
    have h2 : x.name.size + (x.args.length + wtArgs x.args) + x.body.wt = x.wt := rfl
    have h3 := nodes_wt x.body
    have h4 := List.length_pos_of_mem hx
    omega
  · have := nodesL_wt m.main; omega

set_option maxRecDepth 100000 in
set_option maxHeartbeats 8000000 in
theorem fnExactTreeSame_walk (H : SameEx) (h h' : Nat) (v v' : Value) (m m' : TM) (w : World) (hM : IsMod w 0 w.heap.size h v m) (hM' : IsMod w 0 w.heap.size h' v' m') :
    Calls Try.prog 7 #[v, v'] w fun e w' => e = .returned (.bool true) ∧ Below w.heap.size w w' := by
  have HM := hide hM
  have HM' := hide hM'
  obtain ⟨a1, a2, a3, l1, l2, l3, k1, k2, k3, rfl⟩ := mod_form hM
  obtain ⟨c1, c2, c3, j1, j2, j3, i1, i2, i3, rfl⟩ := mod_form hM'
  have HSZ := hide (fun (W : World) (hb : Below w.heap.size w W) => szTreeMod_any 0 h _ m W 1048576 (IsMod.kept h hb hb.size _ _ hM) (by omega) (by omega))
  have HSZ' := hide (fun (W : World) (hb : Below w.heap.size w W) (L : Int) (h0 : 0 ≤ L) (h1 : L ≤ 1048576) => szTreeMod_any 0 h' _ m' W L (IsMod.kept h' hb hb.size _ _ hM') h0 h1)
  have HH := hide H
  clear hM hM' H
  go_enter Try.func7, Try.ntmps7
  go_wp2_with fail
  refine (unhide HSZ _ (((Below.refl _ w).alloc (Nat.le_refl _) _).alloc (by simp) _)).mono ?_
  rintro r w1 ⟨rfl, hb1⟩
  have hB1 : Below w.heap.size w w1 := (((Below.refl _ w).alloc (Nat.le_refl _) _).alloc (by simp) _).trans (hb1.mono (by simp; omega))
  have n1 : Blk w1 w.heap.size [Value.slice a1 l1 k1, .slice a2 l2 k2, .slice a3 l3 k3] := ((Blk.new w [Value.slice a1 l1 k1, .slice a2 l2 k2, .slice a3 l3 k3] 41).old _ (by simp)).below hb1 (by simp; omega)
  have n2 : Blk w1 (w.heap.size + 1) [Value.slice c1 j1 i1, .slice c2 j2 i2, .slice c3 j3 i3] := by
    have := (Blk.new (w.alloc (.cells #[Value.slice a1 l1 k1, .slice a2 l2 k2, .slice a3 l3 k3] 41)) [Value.slice c1 j1 i1, .slice c2 j2 i2, .slice c3 j3 i3] 41).below hb1 (by simp)
    rw [alloc_size] at this
    exact this
  have hs1 : w.heap.size + 1 < w1.heap.size := by have := hb1.size; rw [alloc_size, alloc_size] at this; omega
  have p0 := n1.cellAt (i := 0) rfl
  have p1 := n1.cellAt (i := 1) rfl
  have p2 := n1.cellAt (i := 2) rfl
  have q0 := n2.cellAt (i := 0) rfl
  have q1 := n2.cellAt (i := 1) rfl
  have q2 := n2.cellAt (i := 2) rfl
  have N1 := hide n1
  have N2 := hide n2
  have HB1 := hide hB1
  clear n1 n2 hb1 hB1 HSZ
  by_cases hlt : leftI 1048576 m.wt < 0
  · generalize leftI 1048576 m.wt = L at hlt
    go_wp2
    go_ret
    exact ⟨rfl, unhide HB1⟩
  have hwt := left_wt hlt
  have hel : leftI 1048576 m.wt = ((1048576 - m.wt : Nat) : Int) := by rw [left_yes (by omega)]; omega
  rw [hel]
  obtain ⟨L, hL⟩ : ∃ L, 1048576 - m.wt = L := ⟨_, rfl⟩
  rw [hL]
  have hL2 : L ≤ 1048576 := by omega
  have HNN := hide (mod_nodes hwt)
  have HWT := hide hwt
  clear hlt hel hL hwt
  go_wp2_with fail
  refine (unhide HSZ' _ (unhide HB1) _ (by omega) (by omega)).mono ?_
  rintro r w2 ⟨rfl, hb2⟩
  have hB2 := (unhide HB1).trans (hb2.mono (unhide HB1).size)
  have n1 := (unhide N1).below hb2 (by omega)
  have n2 := (unhide N2).below hb2 (by omega)
  have hs2 : w.heap.size + 1 < w2.heap.size := by have := hb2.size; omega
  clear p0 p1 p2 q0 q1 q2 N1 N2 HB1 HSZ' hb2 hs1
  have p0 := n1.cellAt (i := 0) rfl
  have p1 := n1.cellAt (i := 1) rfl
  have p2 := n1.cellAt (i := 2) rfl
  have q0 := n2.cellAt (i := 0) rfl
  have q1 := n2.cellAt (i := 1) rfl
  have q2 := n2.cellAt (i := 2) rfl
  have N1 := hide n1
  have N2 := hide n2
  have HB2 := hide hB2
  clear n1 n2 hB2
  by_cases hlt : leftI (L : Int) m'.wt < 0
  · generalize leftI (L : Int) m'.wt = L2 at hlt
    go_wp2
    go_ret
    exact ⟨rfl, unhide HB2⟩
  have HWT' : Hid (m'.wt ≤ 1048576) := hide (by
    unfold leftI at hlt
    by_cases g : (m'.wt : Int) ≤ L
    · omega
    · rw [if_neg g] at hlt; omega)
  generalize leftI (L : Int) m'.wt = L2 at hlt
  have HTA := hide (fun (W : World) (hb : Below w.heap.size w W) => toTreeMod_any 0 h _ m W (IsMod.kept h hb hb.size _ _ (unhide HM)) (unhide HWT))
  have HTZ := hide (fun (W : World) (hb : Below w.heap.size w W) => toTreeMod_sep 0 h _ m W (IsMod.kept h hb hb.size _ _ (unhide HM)) (unhide HWT))
  have HTB := hide (fun (W : World) (hb : Below w.heap.size w W) => toTreeMod_any 0 h' _ m' W (IsMod.kept h' hb hb.size _ _ (unhide HM')) (unhide HWT'))
  have HSAME := hide (fun (W : World) (lo lo' : Nat) (v v' : Value) (hh : IsMod W lo W.heap.size h v m) (hh' : IsMod W lo' W.heap.size h' v' m') => TreeSameS_any lo lo' h h' v v' m m' W hh hh')
  clear HM HM' HWT HWT'
  obtain ⟨R, hR⟩ : ∃ R, m.same m' = R := ⟨_, rfl⟩
  simp only [hR] at HSAME
  have HRR := hide hR
  clear hR
  have HA2 := hide (fun (W : World) (hb : Below w2.heap.size w2 W) => unhide HTA W ((unhide HB2).trans (hb.mono (unhide HB2).size)))
  have HC2 := hide (fun (W : World) (hb : Below w2.heap.size w2 W) => unhide HTB W ((unhide HB2).trans (hb.mono (unhide HB2).size)))
  go_upto_region 8 with fail
  go_cut [6] from 20 to 24 (fun s wc => s = .bool R ∧ Hid (Below w2.heap.size w2 wc))
  case first =>
    go_region_with (first
      | (go_at_call 19; (with_reducible refine (unhide HA2 _ ?hba).mono ?_); (case hba => first | exact (Below.refl _ _).drew | exact kB); rintro r wA ⟨vA, rfl, hMA, hbA⟩; have kA : Below w2.heap.size w2 wA := (by first | exact (Below.refl _ _).drew.trans hbA | exact kB.trans (hbA.mono kB.size)); have nA := (unhide N2).below kA (by exact hs2); have z0 := nA.cellAt (i := 0) rfl; have z1 := nA.cellAt (i := 1) rfl; have z2 := nA.cellAt (i := 2) rfl)
      | (go_at_call 19; (with_reducible refine (unhide HC2 _ ?hbb).mono ?_); (case hbb => first | exact (Below.refl _ _).drew | exact kA); rintro r wB ⟨vB, rfl, hMB, hbB⟩; have kB : Below w2.heap.size w2 wB := (by first | exact (Below.refl _ _).drew.trans hbB | exact kA.trans (hbB.mono kA.size)); have nB := (unhide N1).below kB (by omega); have y0 := nB.cellAt (i := 0) rfl; have y1 := nB.cellAt (i := 1) rfl; have y2 := nB.cellAt (i := 2) rfl)
      | (go_at_call 22; refine (unhide HSAME _ _ _ _ _ (by first | exact IsMod.kept h hbB hbB.size _ _ hMA | exact hMA) (by first | exact hMB | exact IsMod.kept h' hbA hbA.size _ _ hMB)).mono ?_; rintro r wC ⟨rfl, hbC⟩))
    all_goals (
      go_wp2_with fail
      go_meet
      exact ⟨rfl, hide (by first | exact kB.trans (hbC.mono kB.size) | exact kA.trans (hbC.mono kA.size))⟩)
  case rest =>
  obtain ⟨w3, hw3⟩ : ∃ w3, w3 = wc := ⟨_, rfl⟩
  subst hw3
  obtain ⟨rfl, HKC⟩ := hcut
  have hB3 := (unhide HB2).trans ((unhide HKC).mono (unhide HB2).size)
  have n1 := (unhide N1).below (unhide HKC) (by omega)
  have n2 := (unhide N2).below (unhide HKC) (by omega)
  have hs3 : w.heap.size + 1 < w3.heap.size := by have := (unhide HKC).size; omega
  clear p0 p1 p2 q0 q1 q2 N1 N2 HB2 HKC HA2 HC2 hs2 HSAME
  have p0 := n1.cellAt (i := 0) rfl
  have p1 := n1.cellAt (i := 1) rfl
  have p2 := n1.cellAt (i := 2) rfl
  have N1 := hide n1
  have N2 := hide n2
  have HB3 := hide hB3
  clear n1 n2 hB3
  go_wp2_with fail
  refine (unhide HTZ _ (unhide HB3)).mono ?_
  rintro r w4 ⟨v4, rfl, hM4, hb4⟩
  obtain ⟨x1, x2, x3, y1, y2, y3, t1, t2, t3, rfl⟩ := mod_form (hM4.toM rfl)
  have hB4 := (unhide HB3).trans (hb4.mono (unhide HB3).size)
  have n1 := (unhide N1).below hb4 (by omega)
  have n2 := (unhide N2).below hb4 (by omega)
  have hs4 : w.heap.size + 1 < w4.heap.size := by have := hb4.size; omega
  have HSZ4 := hide hb4.size
  clear p0 p1 p2 N1 N2 HB3 HTZ hb4 hs3
  have q0 := n2.cellAt (i := 0) rfl
  have q1 := n2.cellAt (i := 1) rfl
  have q2 := n2.cellAt (i := 2) rfl
  have N1 := hide n1
  have N2 := hide n2
  have HB4 := hide hB4
  have HM4 := hide hM4
  clear n1 n2 hB4 hM4
  go_wp2_with fail
  refine (unhide HTB _ ((unhide HB4).alloc (unhide HB4).size _)).mono ?_
  rintro r w5 ⟨v5, rfl, hM5, hb5⟩
  obtain ⟨u1, u2, u3, o1, o2, o3, s1, s2, s3, rfl⟩ := mod_form hM5
  have hb45 : Below w4.heap.size w4 w5 := ((Below.refl _ w4).alloc (Nat.le_refl _) _).trans (hb5.mono (by simp))
  have hB5 := (unhide HB4).trans (hb45.mono (unhide HB4).size)
  have n1 := (unhide N1).below hb45 (by omega)
  have n2 := (unhide N2).below hb45 (by omega)
  have x7 : Blk w5 w4.heap.size [Value.slice x1 y1 t1, .slice x2 y2 t2, .slice x3 y3 t3] := (Blk.new w4 [Value.slice x1 y1 t1, .slice x2 y2 t2, .slice x3 y3 t3] 46).below hb5 (by simp)
  have hs45 : w4.heap.size < w5.heap.size := by have := hb5.size; rw [alloc_size] at this; omega
  have hM4' := IsModS.kept h hb45 hb45.size _ _ (unhide HM4)
  have HI := hide (fun (W : World) (hb : Below w5.heap.size w5 W) => TreeSameI_any (unhide HH) w3.heap.size (w4.alloc (.cells #[Value.slice x1 y1 t1, .slice x2 y2 t2, .slice x3 y3 t3] 46)).heap.size h h' _ _ m m' W (IsModS.kept h hb hb.size _ _ hM4') (IsMod.kept h' hb hb.size _ _ hM5) (by have := unhide HSZ4; have := hb.size; omega) (by rw [alloc_size]; have := hb.size; omega) (unhide HNN))
  have HE7 : Hid (∀ (W : World) (lo' : Nat) (v' : Value), Below w5.heap.size w5 W → IsMod W lo' W.heap.size h v' m → Calls Try.prog 21 #[.agg #[Value.slice x1 y1 t1, .slice x2 y2 t2, .slice x3 y3 t3], v'] W fun r w' => r = .returned (.bool true) ∧ Below W.heap.size W w') := hide (fun W lo' v' hb hv => eqTreeMod_any w3.heap.size lo' h h _ v' m W (IsMod.kept h hb hb.size _ _ (hM4'.toM rfl)) hv)
  have HE8 : Hid (∀ (W : World) (lo' : Nat) (v' : Value), Below w5.heap.size w5 W → IsMod W lo' W.heap.size h' v' m' → Calls Try.prog 21 #[.agg #[Value.slice u1 o1 s1, .slice u2 o2 s2, .slice u3 o3 s3], v'] W fun r w' => r = .returned (.bool true) ∧ Below W.heap.size W w') := hide (fun W lo' v' hb hv => eqTreeMod_any _ lo' h' h' _ v' m' W (IsMod.kept h' hb hb.size _ _ hM5) hv)
  have f0 := x7.cellAt (i := 0) rfl
  have f1 := x7.cellAt (i := 1) rfl
  have f2 := x7.cellAt (i := 2) rfl
  have N1 := hide n1
  have N2 := hide n2
  have X7 := hide x7
  have HB5 := hide hB5
  clear q0 q1 q2 n1 n2 x7 hB5 hM4' hM5 hb45 hb5 HM4 HB4 HSZ4 HH HNN
  go_wp2_with fail
  refine (unhide HI _ ((Below.refl _ _).alloc (Nat.le_refl _) _)).mono ?_
  rintro r w6 ⟨rfl, hb6⟩
  rw [unhide HRR]
  have hb56 : Below w5.heap.size w5 w6 := ((Below.refl _ w5).alloc (Nat.le_refl _) _).trans (hb6.mono (by simp))
  have x8 : Blk w6 w5.heap.size [Value.slice u1 o1 s1, .slice u2 o2 s2, .slice u3 o3 s3] := (Blk.new w5 [Value.slice u1 o1 s1, .slice u2 o2 s2, .slice u3 o3 s3] 46).below hb6 (by simp)
  have hs56 : w5.heap.size < w6.heap.size := by have := hb6.size; rw [alloc_size] at this; omega
  have hB6 := (unhide HB5).trans (hb56.mono (unhide HB5).size)
  have n1 := (unhide N1).below hb56 (by omega)
  have n2 := (unhide N2).below hb56 (by omega)
  have x7 := (unhide X7).below hb56 hs45
  have hq : (R != R) = false := by simp
  have H56 := hide hb56
  have HA6 := hide (fun (W : World) (hb : Below w6.heap.size w6 W) => unhide HTA W (hB6.trans (hb.mono hB6.size)))
  have HC6 := hide (fun (W : World) (hb : Below w6.heap.size w6 W) => unhide HTB W (hB6.trans (hb.mono hB6.size)))
  clear f0 f1 f2 N1 N2 X7 HB5 hb6 hb56 HI HRR HTA HTB
  have p0 := n1.cellAt (i := 0) rfl
  have p1 := n1.cellAt (i := 1) rfl
  have p2 := n1.cellAt (i := 2) rfl
  have f0 := x7.cellAt (i := 0) rfl
  have f1 := x7.cellAt (i := 1) rfl
  have f2 := x7.cellAt (i := 2) rfl
  have hs16 : w.heap.size + 1 < w6.heap.size := by omega
  have hs46 : w4.heap.size < w6.heap.size := by omega
  have N1 := hide n1
  have N2 := hide n2
  have X7 := hide x7
  have X8 := hide x8
  have HB6 := hide hB6
  clear n1 n2 x7 x8 hB6
  go_upto_region 14 with fail
  go_cut [39] from 35 to 38 (fun s wc => s = .bool false ∧ Hid (Below w6.heap.size w6 wc))
  case first =>
    go_region_with (first | (go_at_call 19; refine (unhide HA6 _ (Below.refl _ _).drew).mono ?_; rintro r w7 ⟨v7, rfl, hM7, hb7⟩; have n7 := ((unhide X7).below (Below.refl _ _).drew hs46).below hb7 (by exact hs46); have z0 := n7.cellAt (i := 0) rfl; have z1 := n7.cellAt (i := 1) rfl; have z2 := n7.cellAt (i := 2) rfl) | (go_at_call 21; refine (unhide HE7 _ _ _ (by exact (unhide H56).trans (((Below.refl _ _).drew.trans hb7).mono (unhide H56).size)) hM7).mono ?_; rintro r w8 ⟨rfl, hb8⟩))
    all_goals (
      go_wp2_with fail
      go_meet
      exact ⟨rfl, hide ((Below.refl _ w6).drew.trans (hb7.trans (hb8.mono hb7.size)))⟩)
  case rest =>
  obtain ⟨rfl, HK9⟩ := hcut
  have hB9 := (unhide HB6).trans ((unhide HK9).mono (unhide HB6).size)
  have n2 := (unhide N2).below (unhide HK9) (by omega)
  have x8 := (unhide X8).below (unhide HK9) hs56
  have hs59 : w5.heap.size < wc.heap.size := by have := (unhide HK9).size; omega
  have H59 := hide ((unhide H56).trans ((unhide HK9).mono (unhide H56).size))
  have HC9 := hide (fun (W : World) (hb : Below wc.heap.size wc W) => unhide HC6 W ((unhide HK9).trans (hb.mono (unhide HK9).size)))
  clear p0 p1 p2 f0 f1 f2 N1 N2 X7 X8 HA6 HE7 HC6 H56
  have q0 := n2.cellAt (i := 0) rfl
  have q1 := n2.cellAt (i := 1) rfl
  have q2 := n2.cellAt (i := 2) rfl
  have f0 := x8.cellAt (i := 0) rfl
  have f1 := x8.cellAt (i := 1) rfl
  have f2 := x8.cellAt (i := 2) rfl
  have X8 := hide x8
  have HB9 := hide hB9
  have hs19 : w.heap.size + 1 < wc.heap.size := by omega
  clear n2 x8 hB9 HB6 HK9
  go_wp2
  go_region_with (first | (go_at_call 19; refine (unhide HC9 _ (Below.refl _ _).drew).mono ?_; rintro r w7 ⟨v7, rfl, hM7, hb7⟩; have n7 := ((unhide X8).below (Below.refl _ _).drew hs59).below hb7 (by exact hs59); have z0 := n7.cellAt (i := 0) rfl; have z1 := n7.cellAt (i := 1) rfl; have z2 := n7.cellAt (i := 2) rfl) | (go_at_call 21; refine (unhide HE8 _ _ _ (by exact (unhide H59).trans (((Below.refl _ _).drew.trans hb7).mono (unhide H59).size)) hM7).mono ?_; rintro r w8 ⟨rfl, hb8⟩))
  all_goals
    go_wp2
    go_ret
    exact ⟨rfl, (unhide HB9).trans (((Below.refl _ wc).drew.trans (hb7.trans (hb8.mono hb7.size))).mono (unhide HB9).size)⟩
end Go.Proofs.Ytambkcchnmbaoaa
