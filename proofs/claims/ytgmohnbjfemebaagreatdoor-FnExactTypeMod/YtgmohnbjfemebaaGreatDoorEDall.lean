/- The walk of spec's expr at a let, and at every expression; of l4Fits and spec.TypeExpr. Conditions: all can be read. The walk of spec.TypeExpr. Conditions: all can be read; bounds. The walk of impl.TypeExpr. Conditions: all can be read; bounds; errors.errorType holds the handle of error. The walk of the law on TypeExpr: it returns true and turns nothing that was there. Conditions: all can be read; errors.errorType holds the handle of error. -/
import Derived.Test.YtgmohnbjfemebaaGreatDoorECall
import Derived.Test.YtgmohnbjfemebaaGreatDoorUi
import Derived.Test.YtgmohnbjfemebaaGreatDoorTr
import Derived.Test.YtgmohnbjfemebaaGreatDoorWb
import Derived.Test.YtgmohnbjfemebaaGreatDoorEBall
import Derived.Test.YtgmohnbjfemebaaGreatDoorVe
import Derived.Test.YtgmohnbjfemebaaGreatDoorUe
import Derived.Test.YtgmohnbjfemebaaGreatDoorNJall
import Derived.Test.YtgmohnbjfemebaaGreatDoorTf
namespace Go.Proofs.YtgmohnbjfemebaaGreatDoor
open Go.RowKit Go.PlainAid

set_option maxHeartbeats 4000000 in
theorem exprS_6 (P : Nat) (m : TM) (ys : List TY) (h : Nat) (IH : ExprS P m ys h) (lo lo2 : Nat) (mm : Int) (nm md : ByteArray) (kids : List TE) (x : Value) (w : World) (a : Option Addr) (cap : Nat) (vars : List TA)
    (hE : IsE w lo w.heap.size (h + 1) x (.node 6 mm nm md kids)) (hnode : nodeB 6 mm nm md kids.length = true) (hok : okL kids = true) (hC : Ctx w P m ys) (hV : IsArgs (IsArg w lo2 w.heap.size) w lo2 w.heap.size a vars) (hd : vars.length + (deepL kids + 1) ≤ 1100000) :
    Calls Tryz.prog 41 #[.pointer (some ⟨P, 0, none⟩), .slice a vars.length cap, x] w fun r w' => r = .returned (.tuple #[.int .i64 ((TE.node 6 mm nm md kids).typ (findSig m ys) vars).1, .int .i64 ((TE.node 6 mm nm md kids).typ (findSig m ys) vars).2]) ∧ Below w.heap.size w w' := by
  have hk2 : kids.length = 2 := (node_kids hnode).2.2.2.2.2.1 rfl
  obtain ⟨e0, e1, rfl⟩ : ∃ e0 e1, kids = [e0, e1] := by
    match kids, hk2 with
    | [e0, e1], _ => exact ⟨e0, e1, rfl⟩
  have d0 := deep_at [e0, e1] 0 (by simp)
  have d1 := deep_at [e0, e1] 1 (by simp)
  have d0' : e0.deep ≤ deepL [e0, e1] := d0
  have d1' : e1.deep ≤ deepL [e0, e1] := d1
  have HLET := hide (fun (W' : World) (hb : Below w.heap.size w W') => letS_of P m ys h IH lo lo2 mm nm md e0 e1 x W' a cap vars (IsE.kept hb hb.size _ _ _ hE) ⟨ok_at hok (k := 0) (by simp), ok_at hok (k := 1) (by simp)⟩ (hC.kept hb) (hV.kept hb hb.size) (by omega))
  obtain ⟨T, hT⟩ : ∃ T, (TE.node 6 mm nm md [e0, e1]).typ (findSig m ys) vars = T := ⟨_, rfl⟩
  rw [hT] at HLET ⊢
  obtain ⟨t, c⟩ := T
  dsimp only at HLET ⊢
  obtain ⟨ka, kc, rfl, hz, hk⟩ := hE
  clear hk hV hz hnode hd hok hC hT IH d0 d1 d0' d1'
  simp only [List.length_cons, List.length_nil] at HLET ⊢
  go_enter Tryz.func41, Tryz.ntmps41
  go_wp2_with fail
  refine (unhide HLET _ ((Below.refl _ w).alloc (Nat.le_refl _) _)).mono ?_
  rintro r w2 ⟨rfl, hb2⟩
  have HB2 := hide (((Below.refl w.heap.size w).alloc (Nat.le_refl _) (.cells #[.int .i64 6, .int .i64 mm, .string nm, .string md, .slice ka 2 kc] 31)).trans (hb2.mono (by simp)))
  clear hb2
  go_wp2
  go_ret2
  exact ⟨rfl, unhide HB2⟩
theorem exprS_any (P : Nat) (m : TM) (ys : List TY) (hF : Fits m ys) : ∀ h : Nat, ExprS P m ys h := by
  intro h
  induction h with
  | zero => intro lo lo2 v e w a cap vars hE; exact hE.elim
  | succ h ih =>
    intro lo lo2 v e w a cap vars hE hok hC hV hd
    obtain ⟨k, mm, nm, md, kids⟩ := e
    rw [TE.ok, Bool.and_eq_true] at hok
    rw [TE.deep] at hd
    rcases (node_kids hok.1).2.2.2.2.2.2 with rfl | rfl | rfl | rfl | rfl | rfl | rfl | rfl
    · exact exprS_1 P m ys h lo lo2 mm nm md kids v w a cap vars hE hok.1 hV (by omega)
    · exact exprS_2 P m ys h lo lo2 mm nm md kids v w a cap vars hE hok.1 hV (by omega)
    · exact exprS_3 P m ys h lo lo2 mm nm md kids v w a cap vars hE hok.1 hV (by omega)
    · exact exprS_4 P m ys h ih hF lo lo2 mm nm md kids v w a cap vars hE hok.1 hok.2 hC hV (by omega)
    · exact exprS_5 P m ys h ih hF lo lo2 mm nm md kids v w a cap vars hE hok.1 hok.2 hC hV (by omega)
    · exact exprS_6 P m ys h ih lo lo2 mm nm md kids v w a cap vars hE hok.1 hok.2 hC hV (by omega)
    · exact exprS_7 P m ys h ih hF lo lo2 mm nm md kids v w a cap vars hE hok.1 hok.2 hC hV (by omega)
    · exact exprS_8 P m ys h ih hF lo lo2 mm nm md kids v w a cap vars hE hok.1 hok.2 hC hV (by omega)

/-- An expression that is right and not too large. -/
def TE.fits (e : TE) : Bool := decide (e.nodes ≤ 150) && (decide (e.deep ≤ 16) && e.ok)
set_option maxHeartbeats 4000000 in
theorem l4Fits_any (lo h : Nat) (v : Value) (e : TE) (w : World) (hE : IsE w lo w.heap.size h v e) (hn : e.nodes ≤ 1048577) :
    Calls Tryz.prog 40 #[v] w fun r w' => r = .returned (.bool e.fits) ∧ Below w.heap.size w w' := by
  have HN := hide (fun (W' : World) (hb : Below w.heap.size w W') => TreeNodesS_any lo h v e W' (IsE.kept hb hb.size _ _ _ hE) hn)
  have HX := hide (fun (W' : World) (hb : Below w.heap.size w W') => l2Expr_any (l2Node_any LexNameS_any) lo h v e W' (IsE.kept hb hb.size _ _ _ hE))
  have HF : Hid (e.fits = (decide (e.nodes ≤ 150) && (decide (e.deep ≤ 16) && e.ok))) := hide rfl
  obtain ⟨nn, hnn⟩ : ∃ nn, e.nodes = nn := ⟨_, rfl⟩
  obtain ⟨dd, hdd⟩ : ∃ dd, e.deep = dd := ⟨_, rfl⟩
  have hdn : dd ≤ 1048577 := by have := deep_le e; omega
  obtain ⟨ob, hob⟩ : ∃ ob, e.ok = ob := ⟨_, rfl⟩
  obtain ⟨fb, hfb⟩ : ∃ fb, e.fits = fb := ⟨_, rfl⟩
  rw [hnn, hdd] at HN
  rw [hob] at HX
  rw [hnn, hdd, hob, hfb] at HF
  rw [hfb]
  rw [hnn] at hn
  cases h with
  | zero => exact hE.elim
  | succ h =>
  obtain ⟨k, mm, nm, md, kids⟩ := e
  obtain ⟨ka, kc, rfl, hz, hk⟩ := hE
  have hB : ∀ o : Obj, Below w.heap.size w (w.alloc o) := fun o => (Below.refl _ _).alloc (Nat.le_refl _) _
  obtain ⟨W, hW⟩ : ∃ W, W = w.alloc (.cells #[.int .i64 k, .int .i64 mm, .string nm, .string md, .slice ka kids.length kc] 31) := ⟨_, rfl⟩
  have HBW : Hid (Below w.heap.size w W) := hide (by rw [hW]; exact hB _)
  have N0 : Hid (Blk W w.heap.size [.int .i64 k, .int .i64 mm, .string nm, .string md, .slice ka kids.length kc]) := hide (by rw [hW]; exact Blk.new w _ _)
  have HWS : Hid (W.heap.size = w.heap.size + 1) := hide (by rw [hW]; simp)
  clear hz hk hnn hdd hob hfb
  go_enter Tryz.func40, Tryz.ntmps40
  go_wp2_with fail
  rw [← hW]
  clear hW
  refine (unhide HN _ (unhide HBW)).mono ?_
  rintro r w2 ⟨rfl, hb2⟩
  have HB2 := hide ((unhide HBW).trans (hb2.mono (by rw [unhide HWS]; exact Nat.le_succ _)))
  have n1 := (unhide N0).below hb2 (by rw [unhide HWS]; exact Nat.lt_succ_self _)
  have m0 := n1.cellAt (i := 0) rfl
  have m1 := n1.cellAt (i := 1) rfl
  have m2 := n1.cellAt (i := 2) rfl
  have m3 := n1.cellAt (i := 3) rfl
  have m4 := n1.cellAt (i := 4) rfl
  clear hb2 n1 hB HN
  by_cases h1 : nn ≤ 150
  · by_cases h2 : dd ≤ 16
    · have hfb : fb = ob := by have := unhide HF; rw [this]; simp [h1, h2]
      have g1 : decide ((nn : Int) ≤ 150) = true := decide_eq_true (by omega)
      have g2 : decide ((dd : Int) ≤ 16) = true := decide_eq_true (by omega)
      subst hfb
      clear HF
      go_wp2_with fail
      refine (unhide HX _ (unhide HB2)).mono ?_
      rintro r w3 ⟨rfl, hb3⟩
      have HB3 := hide ((unhide HB2).trans (hb3.mono (unhide HB2).size))
      clear hb3
      go_wp2
      go_ret
      exact ⟨rfl, unhide HB3⟩
    · have hfb : fb = false := by have := unhide HF; rw [this]; simp [h2]
      have g1 : decide ((nn : Int) ≤ 150) = true := decide_eq_true (by omega)
      have g2 : decide ((dd : Int) ≤ 16) = false := decide_eq_false (by omega)
      subst hfb
      clear HF
      go_wp2
      go_ret
      exact ⟨rfl, unhide HB2⟩
  · have hfb : fb = false := by have := unhide HF; rw [this]; simp [h1]
    have g1 : decide ((nn : Int) ≤ 150) = false := decide_eq_false (by omega)
    subst hfb
    clear HF
    go_wp2
    go_ret
    exact ⟨rfl, unhide HB2⟩
end Go.Proofs.YtgmohnbjfemebaaGreatDoor

namespace Go.Proofs.YtgmohnbjfemebaaGreatDoor
open Go.RowKit Go.PlainAid

/-- The type of an expression in a module, and a code. -/
def typX (m : TM) (ys : List TY) (vars : List TA) (e : TE) : Int × Int := if (m.okB && e.fits) = true then e.typ (findSig m ys) vars else (0, 5)
theorem fits_deep {e : TE} (h : e.fits = true) : e.deep ≤ 16 ∧ e.ok = true := by
  unfold TE.fits at h
  simp at h
  exact ⟨h.2.1, h.2.2⟩

set_option maxRecDepth 100000 in
set_option maxHeartbeats 4000000 in
theorem TypeExprS_any (lo h lo2 lo3 lo4 h4 : Nat) (v : Value) (m : TM) (a : Option Addr) (cap : Nat) (ys : List TY) (va : Option Addr) (vcap : Nat) (vars : List TA) (x : Value) (e : TE) (w : World)
    (hM : IsMod w lo w.heap.size h v m) (hwt : m.wt ≤ 1048576) (hY : IsFaces (IsFace w lo2 w.heap.size) w lo2 w.heap.size a ys) (hF : Fits m ys) (hV : IsArgs (IsArg w lo3 w.heap.size) w lo3 w.heap.size va vars) (hvl : vars.length ≤ 1048576) (hE : IsE w lo4 w.heap.size h4 x e) (hn : e.nodes ≤ 1048577) :
    Calls Tryz.prog 10 #[v, .slice a ys.length cap, .slice va vars.length vcap, x] w fun r w' => r = .returned (.tuple #[.int .i64 (typX m ys vars e).1, .int .i64 (typX m ys vars e).2]) ∧ Below w.heap.size w w' := by
  have HOK := hide (fun (W' : World) (hb : Below w.heap.size w W') => TreeOkS_any lo h v m W' (IsMod.kept h hb hb.size _ _ hM) hwt)
  have HFIT := hide (fun (W' : World) (hb : Below w.heap.size w W') => l4Fits_any lo4 h4 x e W' (IsE.kept hb hb.size _ _ _ hE) hn)
  have HCALL := hide (fun (W' : World) (P : Nat) (hb : Below w.heap.size w W') (hC : Ctx W' P m ys) (hf : e.fits = true) => exprS_any P m ys hF h4 lo4 lo3 x e W' va vcap vars (IsE.kept hb hb.size _ _ _ hE) (fits_deep hf).2 hC (hV.kept hb hb.size) (by have := (fits_deep hf).1; omega))
  have HM := hide hM
  have HY := hide hY
  obtain ⟨R, hR⟩ : ∃ R, typX m ys vars e = R := ⟨_, rfl⟩
  rw [hR]
  have HNO : Hid ((m.okB && e.fits) = false → R = (0, 5)) := hide (fun g => by rw [← hR]; unfold typX; rw [g]; rfl)
  have HYES : Hid (m.okB = true → e.fits = true → R = e.typ (findSig m ys) vars) := hide (fun g1 g2 => by rw [← hR]; unfold typX; rw [g1, g2]; rfl)
  clear hR
  obtain ⟨a1, a2, a3, k1, k2, k3, hv, hz, q1, q2, q3⟩ := hM
  subst hv
  obtain ⟨kd, mm, nm, md, kids⟩ := e
  cases h4 with
  | zero => exact hE.elim
  | succ h4 =>
  obtain ⟨ka, kc, hx, hz2, hk⟩ := hE
  subst hx
  obtain ⟨L1, hL1⟩ : ∃ L1, m.uses.length = L1 := ⟨_, rfl⟩
  obtain ⟨L2, hL2⟩ : ∃ L2, m.funs.length = L2 := ⟨_, rfl⟩
  obtain ⟨L3, hL3⟩ : ∃ L3, m.main.length = L3 := ⟨_, rfl⟩
  rw [hL1, hL2, hL3] at HOK HM ⊢
  obtain ⟨KL, hKL⟩ : ∃ KL, kids.length = KL := ⟨_, rfl⟩
  rw [hKL] at HFIT HCALL ⊢
  obtain ⟨W, hW⟩ : ∃ W, W = (w.alloc (.cells #[.slice a1 L1 k1, .slice a2 L2 k2, .slice a3 L3 k3] 27)).alloc (.cells #[.int .i64 kd, .int .i64 mm, .string nm, .string md, .slice ka KL kc] 31) := ⟨_, rfl⟩
  have HBW : Hid (Below w.heap.size w W) := hide (by rw [hW]; exact ((Below.refl _ _).alloc (Nat.le_refl _) _).alloc (by simp) _)
  have HWS : Hid (W.heap.size = w.heap.size + 2) := hide (by rw [hW]; simp)
  have N0 : Hid (Blk W w.heap.size [.slice a1 L1 k1, .slice a2 L2 k2, .slice a3 L3 k3]) := hide (by rw [hW]; exact (Blk.new w [.slice a1 L1 k1, .slice a2 L2 k2, .slice a3 L3 k3] _).old _ (by simp))
  have N1 : Hid (Blk W (w.heap.size + 1) [.int .i64 kd, .int .i64 mm, .string nm, .string md, .slice ka KL kc]) := hide (by rw [hW]; have := Blk.new (w.alloc (.cells #[.slice a1 L1 k1, .slice a2 L2 k2, .slice a3 L3 k3] 27)) [.int .i64 kd, .int .i64 mm, .string nm, .string md, .slice ka KL kc] 31; rw [alloc_size] at this; exact this)
  clear q1 q2 q3 hz hz2 hk hV hY hF hwt hn hL1 hL2 hL3 hKL
  go_enter Tryz.func10, Tryz.ntmps10
  go_wp2_with fail
  rw [← hW]
  clear hW
  refine (unhide HOK _ (unhide HBW)).mono ?_
  rintro r w2 ⟨rfl, hb2⟩
  have HB2 := hide ((unhide HBW).trans (hb2.mono (by rw [unhide HWS]; omega)))
  have HN2 := hide ((unhide N0).below hb2 (by rw [unhide HWS]; omega))
  have HM2 := hide ((unhide N1).below hb2 (by rw [unhide HWS]; omega))
  have hs2 : w.heap.size + 2 ≤ w2.heap.size := by have := hb2.size; rw [unhide HWS] at this; exact this
  clear hb2 HOK N0 N1 HBW HWS
  have e0 := (unhide HM2).cellAt (i := 0) rfl
  have e1 := (unhide HM2).cellAt (i := 1) rfl
  have e2 := (unhide HM2).cellAt (i := 2) rfl
  have e3 := (unhide HM2).cellAt (i := 3) rfl
  have e4 := (unhide HM2).cellAt (i := 4) rfl
  cases hok : m.okB with
  | false =>
    have HX := hide (unhide HNO (by rw [hok]; rfl))
    clear HNO HYES hok
    go_wp2
    go_ret2
    refine ⟨?_, unhide HB2⟩
    rw [unhide HX]
    rfl
  | true =>
    go_wp2_with fail
    refine (unhide HFIT _ (unhide HB2)).mono ?_
    rintro r w3 ⟨rfl, hb3⟩
    have HB3 := hide ((unhide HB2).trans (hb3.mono (unhide HB2).size))
    have HN3 := hide ((unhide HN2).below hb3 (by omega))
    have HM3 := hide ((unhide HM2).below hb3 (by omega))
    have hs3 : w.heap.size + 2 ≤ w3.heap.size := Nat.le_trans hs2 hb3.size
    clear hb3 HFIT HN2 HM2 e0 e1 e2 e3 e4
    cases hfit : (TE.node kd mm nm md kids).fits with
    | false =>
      have HX := hide (unhide HNO (by rw [hok, hfit]; rfl))
      clear HNO HYES hok hfit
      go_wp2
      go_ret2
      refine ⟨?_, unhide HB3⟩
      rw [unhide HX]
      rfl
    | true =>
      have HX := hide (unhide HYES hok hfit)
      have e0 := (unhide HM3).cellAt (i := 0) rfl
      have e1 := (unhide HM3).cellAt (i := 1) rfl
      have e2 := (unhide HM3).cellAt (i := 2) rfl
      have e3 := (unhide HM3).cellAt (i := 3) rfl
      have e4 := (unhide HM3).cellAt (i := 4) rfl
      have f0 := (unhide HN3).cellAt (i := 0) rfl
      have f1 := (unhide HN3).cellAt (i := 1) rfl
      have f2 := (unhide HN3).cellAt (i := 2) rfl
      have hBN : Below w.heap.size w (w3.alloc (.cells #[.slice a1 L1 k1, .slice a2 L2 k2, .slice a3 L3 k3, .slice a ys.length cap] 102)) := (unhide HB3).alloc (unhide HB3).size _
      have hCN : Ctx (w3.alloc (.cells #[.slice a1 L1 k1, .slice a2 L2 k2, .slice a3 L3 k3, .slice a ys.length cap] 102)) w3.heap.size m ys := ⟨by simp, _, _, _, a, cap, lo, h, lo2, alloc_cell w3 _ _ 0, alloc_cell w3 _ _ 1, alloc_cell w3 _ _ 2, alloc_cell w3 _ _ 3, IsMod.kept h hBN hBN.size _ _ (unhide HM), (unhide HY).kept hBN hBN.size⟩
      have HC := hide (unhide HCALL _ w3.heap.size hBN hCN hfit)
      have HBN := hide hBN
      have g0 : ∀ o : Obj, (w3.alloc o).cell? ⟨w.heap.size + 1, 0, none⟩ = some (.int .i64 kd) := fun o => ((unhide HM3).old o (by omega)).cellAt (i := 0) rfl
      have g1 : ∀ o : Obj, (w3.alloc o).cell? ⟨w.heap.size + 1, 1, none⟩ = some (.int .i64 mm) := fun o => ((unhide HM3).old o (by omega)).cellAt (i := 1) rfl
      have g2 : ∀ o : Obj, (w3.alloc o).cell? ⟨w.heap.size + 1, 2, none⟩ = some (.string nm) := fun o => ((unhide HM3).old o (by omega)).cellAt (i := 2) rfl
      have g3 : ∀ o : Obj, (w3.alloc o).cell? ⟨w.heap.size + 1, 3, none⟩ = some (.string md) := fun o => ((unhide HM3).old o (by omega)).cellAt (i := 3) rfl
      have g4 : ∀ o : Obj, (w3.alloc o).cell? ⟨w.heap.size + 1, 4, none⟩ = some (.slice ka KL kc) := fun o => ((unhide HM3).old o (by omega)).cellAt (i := 4) rfl
      obtain ⟨T, hT⟩ : ∃ T, (TE.node kd mm nm md kids).typ (findSig m ys) vars = T := ⟨_, rfl⟩
      rw [hT] at HC HX
      obtain ⟨t, c⟩ := T
      dsimp only at HC
      clear HNO HYES hok hfit hBN hCN hT HCALL
      go_wp2_with fail
      refine (unhide HC).mono ?_
      rintro r w4 ⟨rfl, hb4⟩
      have HB4 := hide ((unhide HBN).trans (hb4.mono (unhide HBN).size))
      clear hb4
      go_wp2
      go_ret2
      refine ⟨?_, unhide HB4⟩
      rw [unhide HX]
      rfl
end Go.Proofs.YtgmohnbjfemebaaGreatDoor

namespace Go.Proofs.YtgmohnbjfemebaaGreatDoor
open Go.RowKit Go.PlainAid

theorem fieldF (c p : Int) (W : World) : (Instr.field 45 (.agg #[.int .i64 c, .int .i64 p]) 0).run Tryz.prog W = .ok (.int .i64 c) W := by kernel_rfl
theorem right_fits (e : TE) : e.rightB 150 1 = e.fits := by
  unfold TE.rightB TE.fits
  have h : decide (1 + e.deep ≤ 17) = decide (e.deep ≤ 16) := by
    by_cases g : e.deep ≤ 16
    · rw [decide_eq_true g, decide_eq_true (by omega)]
    · rw [decide_eq_false g, decide_eq_false (by omega)]
  rw [h]

set_option maxRecDepth 100000 in
set_option maxHeartbeats 1500000 in
theorem TypeExprI_any (lo h lo2 lo3 lo4 h4 : Nat) (v : Value) (m : TM) (a : Option Addr) (cap : Nat) (ys : List TY) (va : Option Addr) (vcap : Nat) (vars : List TA) (x : Value) (e : TE) (w : World) (hg : Held w)
    (hM : IsMod w lo w.heap.size h v m) (hY : IsFaces (IsFace w lo2 w.heap.size) w lo2 w.heap.size a ys) (hF : Fits m ys) (hV : IsArgs (IsArg w lo3 w.heap.size) w lo3 w.heap.size va vars) (hvl : vars.length ≤ 1048576) (hE : IsE w lo4 w.heap.size h4 x e) :
    Calls Tryz.prog 9 #[v, .slice a ys.length cap, .slice va vars.length vcap, x] w fun r w' => r = .returned (.tuple #[.int .i64 (typX m ys vars e).1, .int .i64 (typX m ys vars e).2]) ∧ Below w.heap.size w w' := by
  have HG := hide hg
  have HOK := hide (fun (W' : World) (hb : Below w.heap.size w W') => TreeOkI_any lo h v m W' (IsMod.kept h hb hb.size _ _ hM))
  have HFIT := hide (fun (W' : World) (B : Nat) (hb : Below w.heap.size w W') (hB : w.heap.size ≤ B) (hB2 : B < W'.heap.size) (hck : Ck W' B 150) => checkRight_any lo4 w.heap.size B hB h4 x e W' 150 1 (IsE.kept hb (Nat.le_refl _) _ _ _ hE) hB2 hck (Nat.le_refl _) (Nat.le_refl _) (by omega))
  rw [right_fits] at HFIT
  have HCHK := hide (fun (W' : World) (hb : Below w.heap.size w W') => checkOf_any lo h lo2 v m a cap ys W' (IsMod.kept h hb hb.size _ _ hM) (hY.kept hb hb.size))
  have HVAR := hide (fun (W' : World) (hb : Below w.heap.size w W') => typeVars_any lo3 va vcap vars W' (hV.kept hb hb.size) (by unfold maxLen; omega))
  have HCALL := hide (fun (W' : World) (C : Nat) (pv : Value) (hb : Below w.heap.size w W') (hC : CtxI W' C m ys 0) (hp : IsV W' W'.heap.size pv vars.reverse) (hf : e.fits = true) => Calls.mono (exprI_any C m ys 0 hF h4 lo4 x e W' pv vars (IsE.kept hb hb.size _ _ _ hE) (fits_deep hf).2 hC hp) (fun r w' hh => show ∃ (x : Int) (y : Value), r = .returned (.tuple #[.int .i64 x, y]) ∧ IsRes w' w'.heap.size (.tuple #[.int .i64 x, y]) (e.typ (findSig m ys) vars) 0 ∧ Below W'.heap.size W' w' from by
    obtain ⟨v, he, hr, hb'⟩ := hh
    obtain ⟨x, y, rfl⟩ := hr.form
    exact ⟨x, y, he, hr, hb'⟩))
  have HCODE := hide (typ_code (findSig m ys) e vars)
  obtain ⟨R, hR⟩ : ∃ R, typX m ys vars e = R := ⟨_, rfl⟩
  rw [hR]
  have HNO : Hid ((m.okB && e.fits) = false → R = (0, 5)) := hide (fun g => by rw [← hR]; unfold typX; rw [g]; rfl)
  have HYES : Hid (m.okB = true → e.fits = true → R = e.typ (findSig m ys) vars) := hide (fun g1 g2 => by rw [← hR]; unfold typX; rw [g1, g2]; rfl)
  clear hR
  obtain ⟨a1, a2, a3, k1, k2, k3, hv, hz, q1, q2, q3⟩ := hM
  subst hv
  obtain ⟨kd, mm, nm, md, kids⟩ := e
  cases h4 with
  | zero => exact hE.elim
  | succ h4 =>
  obtain ⟨ka, kc, hx, hz2, hk⟩ := hE
  subst hx
  obtain ⟨L1, hL1⟩ : ∃ L1, m.uses.length = L1 := ⟨_, rfl⟩
  obtain ⟨L2, hL2⟩ : ∃ L2, m.funs.length = L2 := ⟨_, rfl⟩
  obtain ⟨L3, hL3⟩ : ∃ L3, m.main.length = L3 := ⟨_, rfl⟩
  rw [hL1, hL2, hL3] at HOK HCHK ⊢
  obtain ⟨KL, hKL⟩ : ∃ KL, kids.length = KL := ⟨_, rfl⟩
  rw [hKL] at HFIT HCALL ⊢
  obtain ⟨W, hW⟩ : ∃ W, W = ((w.alloc (.cells #[.slice a1 L1 k1, .slice a2 L2 k2, .slice a3 L3 k3] 27)).alloc (.cells #[.int .i64 kd, .int .i64 mm, .string nm, .string md, .slice ka KL kc] 31)).alloc (.cells #[.int .i64 150] 87) := ⟨_, rfl⟩
  have HBW : Hid (Below w.heap.size w W) := hide (by rw [hW]; exact (((Below.refl _ _).alloc (Nat.le_refl _) _).alloc (by simp) _).alloc (by simp; omega) _)
  have HWS : Hid (W.heap.size = w.heap.size + 3) := hide (by rw [hW]; simp)
  have N0 : Hid (Blk W w.heap.size [.slice a1 L1 k1, .slice a2 L2 k2, .slice a3 L3 k3]) := hide (by rw [hW]; exact ((Blk.new w [.slice a1 L1 k1, .slice a2 L2 k2, .slice a3 L3 k3] _).old _ (by simp)).old _ (by simp; omega))
  have N1 : Hid (Blk W (w.heap.size + 1) [.int .i64 kd, .int .i64 mm, .string nm, .string md, .slice ka KL kc]) := hide (by rw [hW]; have := (Blk.new (w.alloc (.cells #[.slice a1 L1 k1, .slice a2 L2 k2, .slice a3 L3 k3] 27)) [.int .i64 kd, .int .i64 mm, .string nm, .string md, .slice ka KL kc] 31).old (.cells #[.int .i64 150] 87) (by simp); rw [alloc_size] at this; exact this)
  have N2 : Hid (Blk W (w.heap.size + 1 + 1) [.int .i64 150]) := hide (by rw [hW]; have := Blk.new ((w.alloc (.cells #[.slice a1 L1 k1, .slice a2 L2 k2, .slice a3 L3 k3] 27)).alloc (.cells #[.int .i64 kd, .int .i64 mm, .string nm, .string md, .slice ka KL kc] 31)) [.int .i64 150] 87; rw [alloc_size, alloc_size] at this; exact this)
  clear q1 q2 q3 hz hz2 hk hV hY hF hL1 hL2 hL3 hKL hg
  go_enter Tryz.func9, Tryz.ntmps9
  go_wp2_with fail
  rw [← hW]
  clear hW
  refine (unhide HOK _ (unhide HBW)).mono ?_
  rintro r w2 ⟨rfl, hb2⟩
  have HB2 := hide ((unhide HBW).trans (hb2.mono (by rw [unhide HWS]; omega)))
  have HN2 := hide ((unhide N0).below hb2 (by rw [unhide HWS]; omega))
  have HM2 := hide ((unhide N1).below hb2 (by rw [unhide HWS]; omega))
  have HQ2 := hide ((unhide N2).below hb2 (by rw [unhide HWS]; omega))
  have hs2 : w.heap.size + 3 ≤ w2.heap.size := by have := hb2.size; rw [unhide HWS] at this; exact this
  clear hb2 HOK N0 N1 N2 HBW HWS
  have e0 := (unhide HM2).cellAt (i := 0) rfl
  have e1 := (unhide HM2).cellAt (i := 1) rfl
  have e2 := (unhide HM2).cellAt (i := 2) rfl
  have e3 := (unhide HM2).cellAt (i := 3) rfl
  have e4 := (unhide HM2).cellAt (i := 4) rfl
  cases hok : m.okB with
  | false =>
    have HX := hide (unhide HNO (by rw [hok]; rfl))
    clear HNO HYES hok
    go_wp2
    go_ret2
    refine ⟨?_, unhide HB2⟩
    rw [unhide HX]
    rfl
  | true =>
    have HFC := hide (unhide HFIT w2 (w.heap.size + 1 + 1) (unhide HB2) (by omega) (by omega) ⟨(unhide HQ2).cellAt (i := 0) rfl, (unhide HQ2).2 0⟩)
    clear HFIT HQ2
    go_wp2_with fail
    refine (unhide HFC).mono ?_
    rintro r w3 ⟨rfl, L', hck, _, hgr⟩
    have hB3 : Below w.heap.size w w3 := below_gr (unhide HB2) hgr (by omega) (unhide HB2).size
    have HB3 := hide hB3
    have hs3 : w.heap.size + 3 ≤ w3.heap.size := Nat.le_trans hs2 hgr.size
    have hblk : ∀ B, B < w.heap.size + 2 → w3.heap[B]? = w2.heap[B]? := fun B hB => hgr.block B (by omega) (by simp; omega)
    have HN3 : Hid (Blk w3 w.heap.size [.slice a1 L1 k1, .slice a2 L2 k2, .slice a3 L3 k3]) := hide ⟨fun i => (World.cell?_of_block (hblk w.heap.size (by omega))).trans ((unhide HN2).1 i), fun i => (World.frozen?_of_block (hblk w.heap.size (by omega))).trans ((unhide HN2).2 i)⟩
    have HM3 : Hid (Blk w3 (w.heap.size + 1) [.int .i64 kd, .int .i64 mm, .string nm, .string md, .slice ka KL kc]) := hide ⟨fun i => (World.cell?_of_block (hblk (w.heap.size + 1) (by omega))).trans ((unhide HM2).1 i), fun i => (World.frozen?_of_block (hblk (w.heap.size + 1) (by omega))).trans ((unhide HM2).2 i)⟩
    clear hck hgr hblk HFC HN2 HM2 e0 e1 e2 e3 e4 hB3
    cases hfit : (TE.node kd mm nm md kids).fits with
    | false =>
      have HX := hide (unhide HNO (by rw [hok, hfit]; rfl))
      clear HNO HYES hok hfit
      go_wp2
      go_ret2
      refine ⟨?_, unhide HB3⟩
      rw [unhide HX]
      rfl
    | true =>
      have HX := hide (unhide HYES hok hfit)
      have HSK := hide (fun (w' : World) (hb : Below w3.heap.size w3 w') => (⟨((unhide HN3).below hb (by omega)).cellAt (i := 0) rfl, ((unhide HN3).below hb (by omega)).cellAt (i := 1) rfl, ((unhide HN3).below hb (by omega)).cellAt (i := 2) rfl, ((unhide HM3).below hb (by omega)).cellAt (i := 0) rfl, ((unhide HM3).below hb (by omega)).cellAt (i := 1) rfl, ((unhide HM3).below hb (by omega)).cellAt (i := 2) rfl, ((unhide HM3).below hb (by omega)).cellAt (i := 3) rfl, ((unhide HM3).below hb (by omega)).cellAt (i := 4) rfl⟩ : w'.cell? ⟨w.heap.size, 0, none⟩ = some (.slice a1 L1 k1) ∧ w'.cell? ⟨w.heap.size, 1, none⟩ = some (.slice a2 L2 k2) ∧ w'.cell? ⟨w.heap.size, 2, none⟩ = some (.slice a3 L3 k3) ∧ w'.cell? ⟨w.heap.size + 1, 0, none⟩ = some (.int .i64 kd) ∧ w'.cell? ⟨w.heap.size + 1, 1, none⟩ = some (.int .i64 mm) ∧ w'.cell? ⟨w.heap.size + 1, 2, none⟩ = some (.string nm) ∧ w'.cell? ⟨w.heap.size + 1, 3, none⟩ = some (.string md) ∧ w'.cell? ⟨w.heap.size + 1, 4, none⟩ = some (.slice ka KL kc)))
      have HC6 := hide (fun (W' : World) (C : Nat) (pv : Value) (hb : Below w.heap.size w W') (hC : CtxI W' C m ys 0) (hp : IsV W' W'.heap.size pv vars.reverse) => unhide HCALL W' C pv hb hC hp hfit)
      obtain ⟨T, hT⟩ : ∃ T, (TE.node kd mm nm md kids).typ (findSig m ys) vars = T := ⟨_, rfl⟩
      rw [hT] at HC6 HX HCODE
      obtain ⟨t, c⟩ := T
      dsimp only at HCODE
      clear HNO HYES hok hfit hT HCALL
      go_wp2
      go_region_held3 (fun w' => w'.cell? ⟨w.heap.size, 0, none⟩ = some (.slice a1 L1 k1) ∧ w'.cell? ⟨w.heap.size, 1, none⟩ = some (.slice a2 L2 k2) ∧ w'.cell? ⟨w.heap.size, 2, none⟩ = some (.slice a3 L3 k3) ∧ w'.cell? ⟨w.heap.size + 1, 0, none⟩ = some (.int .i64 kd) ∧ w'.cell? ⟨w.heap.size + 1, 1, none⟩ = some (.int .i64 mm) ∧ w'.cell? ⟨w.heap.size + 1, 2, none⟩ = some (.string nm) ∧ w'.cell? ⟨w.heap.size + 1, 3, none⟩ = some (.string md) ∧ w'.cell? ⟨w.heap.size + 1, 4, none⟩ = some (.slice ka KL kc))
        (exact unhide HSK _ (by first | with_reducible exact kX | with_reducible exact kV | with_reducible exact kC | with_reducible exact Below.refl _ _ | with_reducible exact (Below.refl _ _).drew))
        (first
          | (go_at_call 35; refine (unhide HCHK _ (unhide HB3).drew).mono ?_; rintro r w4 ⟨C4, rfl, hctx4, hC4, hb4⟩; have kC : Below w3.heap.size w3 w4 := (Below.refl _ w3).drew.trans hb4)
          | (go_at_call 37; refine (unhide HVAR w4 ((unhide HB3).trans (kC.mono (unhide HB3).size))).mono ?_; rintro r w5 ⟨p5, rfl, hV5, hb5⟩; obtain ⟨pa5, rfl⟩ := hV5.form; have kV : Below w3.heap.size w3 w5 := kC.trans (hb5.mono kC.size))
          | (go_at_call 36; refine (unhide HC6 w5 C4 _ ((unhide HB3).trans (kV.mono (unhide HB3).size)) (hctx4.kept hb5) hV5).mono ?_; rintro r w6 ⟨x6, y6, rfl, hr6, hb6⟩; have kX : Below w3.heap.size w3 w6 := kV.trans (hb6.mono kV.size)))
      all_goals
        have HB6 := hide ((unhide HB3).trans (kX.mono (unhide HB3).size))
        have HG6 := hide ((unhide HG).kept (unhide HB6))
        rcases hr6 with ⟨hc, hv'⟩ | ⟨hc, ee, hv', hee⟩
        · have hc' : c = 0 := hc
          subst hc'
          have hv2 : (.tuple #[.int .i64 x6, y6] : Value) = .tuple #[.int .i64 t, .nilIface] := hv'
          simp only [Value.tuple.injEq, Array.mk.injEq, List.cons.injEq, Value.int.injEq, true_and, and_true] at hv2
          obtain ⟨rfl, rfl⟩ := hv2
          clear hc hv' hb6 hb5 hb4 hV5 hctx4 kC kV kX
          go_wp2_with fail
          refine (faultOf_nil w6).mono ?_
          rintro r w7 ⟨rfl, hb7⟩
          have hfd := fieldF 0 0 w7
          have HB7 := hide ((unhide HB6).trans (hb7.mono (unhide HB6).size))
          clear hb7
          go_wp2
          go_ret2
          refine ⟨?_, unhide HB7⟩
          rw [unhide HX]
          rfl
        · have hc' : c ≠ 0 := hc
          have hv2 : (.tuple #[.int .i64 x6, y6] : Value) = .tuple #[.int .i64 0, ee] := hv'
          simp only [Value.tuple.injEq, Array.mk.injEq, List.cons.injEq, Value.int.injEq, true_and, and_true] at hv2
          obtain ⟨rfl, rfl⟩ := hv2
          have ht0 : t = 0 := (unhide HCODE).2 hc'
          have HFO := hide (faultOf_hit y6 c 0 w6 (unhide HG6) hee)
          subst ht0
          clear hc hv' hb6 hb5 hb4 hV5 hctx4 kC kV kX hee hc'
          go_wp2_with fail
          refine (unhide HFO).mono ?_
          rintro r w7 ⟨rfl, hb7⟩
          have hfd := fieldF c 0 w7
          have HB7 := hide ((unhide HB6).trans (hb7.mono (unhide HB6).size))
          clear hb7
          go_wp2
          go_ret2
          refine ⟨?_, unhide HB7⟩
          rw [unhide HX]
          rfl
end Go.Proofs.YtgmohnbjfemebaaGreatDoor

namespace Go.Proofs.YtgmohnbjfemebaaGreatDoor
open Go.RowKit Go.PlainAid

theorem sum_mem {α : Type} (g : α → Nat) : ∀ (l : List α) (x : α), x ∈ l → g x ≤ (l.map g).sum
  | [], _, h => by cases h
  | y :: t, x, h => by
    rw [List.map_cons, List.sum_cons]
    rcases List.mem_cons.1 h with rfl | h
    · omega
    · have := sum_mem g t x h; omega
theorem funs_small {m : TM} (h : m.wt ≤ 1048576) : ∀ f ∈ m.funs, f.args.length ≤ 1048576 ∧ f.name.size ≤ 1048576 := fun f hf => by
  have h1 := sum_mem TF.wt m.funs f hf
  have e : f.wt = f.name.size + (f.args.length + wtArgs f.args) + f.body.wt := rfl
  unfold TM.wt wtFuns at h
  omega
theorem sigs_small {l : List TY} (h : l.length + wtFaces l ≤ 1048576) : ∀ y ∈ l, ∀ s ∈ y.sigs, s.args.length ≤ 1048576 ∧ s.name.size ≤ 1048576 := fun y hy s hs => by
  have h1 := sum_mem TY.wt l y hy
  have h2 := sum_mem TS.wt y.sigs s hs
  have e1 : y.wt = y.mod.size + (y.sigs.length + (y.sigs.map TS.wt).sum) := rfl
  have e2 : s.wt = s.name.size + s.args.length := rfl
  unfold wtFaces at h
  omega

theorem IsMod.formE {w : World} {lo n h : Nat} {v : Value} {m : TM} (hM : IsMod w lo n h v m) : ∃ (a1 a2 a3 : Option Addr) (l1 l2 l3 k1 k2 k3 : Nat), v = .agg #[.slice a1 l1 k1, .slice a2 l2 k2, .slice a3 l3 k3] := by
  obtain ⟨a1, a2, a3, k1, k2, k3, hv, _⟩ := hM
  exact ⟨_, _, _, _, _, _, _, _, _, hv⟩
theorem left_ge {left : Int} {n : Nat} (h : ¬ leftI left n < 0) : (n : Int) ≤ left ∧ leftI left n = left - n := by
  unfold leftI at h ⊢
  by_cases g : (n : Int) ≤ left
  · rw [if_pos g]; exact ⟨g, rfl⟩
  · rw [if_neg g] at h; omega

set_option maxRecDepth 100000 in
set_option maxHeartbeats 2000000 in
theorem fnExactTypeExpr_walk (h : Nat) (v : Value) (m : TM) (a : Option Addr) (cap : Nat) (ys : List TY) (va : Option Addr) (vcap : Nat) (vars : List TA) (h4 : Nat) (x : Value) (e : TE) (w : World) (hg : Held w) (hM : IsMod w 0 w.heap.size h v m) (hY : IsFaces (IsFace w 0 w.heap.size) w 0 w.heap.size a ys) (hyl : ys.length ≤ maxLen) (hV : IsArgs (IsArg w 0 w.heap.size) w 0 w.heap.size va vars) (hvl : vars.length ≤ maxLen) (hE : IsE w 0 w.heap.size h4 x e) :
    Calls Tryz.prog 6 #[v, .slice a ys.length cap, .slice va vars.length vcap, x] w fun r w' => r = .returned (.bool true) ∧ Below w.heap.size w w' := by
  have HG := hide hg
  have HSM := hide (fun (W' : World) (hb : Below w.heap.size w W') => szTreeMod_any 0 h v m W' 1048576 (IsMod.kept h hb hb.size _ _ hM) (by omega) (by omega))
  have HSF := hide (fun (W' : World) (l : Int) (hb : Below w.heap.size w W') (g0 : 0 ≤ l) (g1 : l ≤ 1048576) => szTreeFaceS_of 0 (szTypeFace_any 0) a cap ys W' l (hY.kept hb hb.size) hyl g0 g1)
  have HSA := hide (fun (W' : World) (l : Int) (hb : Below w.heap.size w W') (g0 : 0 ≤ l) (g1 : l ≤ 1048576) => szTreeArgS_of 0 (szTreeArg_any 0) va vcap vars W' l (hV.kept hb hb.size) hvl g0 g1)
  have HSE := hide (fun (W' : World) (l : Int) (hb : Below w.heap.size w W') (g0 : 0 ≤ l) (g1 : l ≤ 1048576) => szTreeExpr_any 0 h4 x e W' l (IsE.kept hb hb.size _ _ _ hE) g0 g1)
  have HTM := hide (fun (ht : m.wt ≤ 1048576) (W' : World) (hb : Below w.heap.size w W') => toTreeMod_any 0 h v m W' (IsMod.kept h hb hb.size _ _ hM) ht)
  have HTF := hide (fun (ht : ys.length + wtFaces ys ≤ 1048576) (W' : World) (hb : Below w.heap.size w W') => toTreeFaceS_of 0 (toTypeFace_any 0) a cap ys W' (hY.kept hb hb.size) ht)
  have HTA := hide (fun (ht : vars.length + wtArgs vars ≤ 1048576) (W' : World) (hb : Below w.heap.size w W') => toTreeArgS_of 0 (toTreeArg_any 0) va vcap vars W' (hV.kept hb hb.size) ht)
  have HTE := hide (fun (ht : e.wt ≤ 1048576) (W' : World) (hb : Below w.heap.size w W') => toTreeExpr_any 0 h4 x e W' (IsE.kept hb hb.size _ _ _ hE) ht)
  have HYL := hide hyl
  have HVL := hide hvl
  unfold maxLen at hyl hvl
  obtain ⟨a1, a2, a3, L1, L2, L3, k1, k2, k3, rfl⟩ := hM.formE
  obtain ⟨kd, mm, nm, md, ka, KL, kc, rfl⟩ := hE.form
  obtain ⟨W, hW⟩ : ∃ W, W = (w.alloc (.cells #[.slice a1 L1 k1, .slice a2 L2 k2, .slice a3 L3 k3] 50)).alloc (.cells #[.int .i64 kd, .int .i64 mm, .string nm, .string md, .slice ka KL kc] 54) := ⟨_, rfl⟩
  have HBW : Hid (Below w.heap.size w W) := hide (by rw [hW]; exact ((Below.refl _ _).alloc (Nat.le_refl _) _).alloc (by simp) _)
  have HWS : Hid (W.heap.size = w.heap.size + 2) := hide (by rw [hW]; simp)
  have N0 : Hid (Blk W w.heap.size [.slice a1 L1 k1, .slice a2 L2 k2, .slice a3 L3 k3]) := hide (by rw [hW]; exact (Blk.new w [.slice a1 L1 k1, .slice a2 L2 k2, .slice a3 L3 k3] _).old _ (by simp))
  have N1 : Hid (Blk W (w.heap.size + 1) [.int .i64 kd, .int .i64 mm, .string nm, .string md, .slice ka KL kc]) := hide (by rw [hW]; have := Blk.new (w.alloc (.cells #[.slice a1 L1 k1, .slice a2 L2 k2, .slice a3 L3 k3] 50)) [.int .i64 kd, .int .i64 mm, .string nm, .string md, .slice ka KL kc] 54; rw [alloc_size] at this; exact this)
  clear hM hY hV hE hg
  go_enter Tryz.func6, Tryz.ntmps6
  go_wp2_with fail
  rw [← hW]
  clear hW
  refine (unhide HSM _ (unhide HBW)).mono ?_
  rintro r w1 ⟨rfl, hb1⟩
  have K1 := hide hb1
  have HB1 := hide ((unhide HBW).trans (hb1.mono (by rw [unhide HWS]; omega)))
  clear hb1 HSM
  by_cases g1 : leftI 1048576 m.wt < 0
  · generalize leftI 1048576 m.wt = L at g1
    go_wp2
    go_ret
    exact ⟨rfl, unhide HB1⟩
  obtain ⟨wt1, el1⟩ := left_ge g1
  rw [el1]
  obtain ⟨l1, hl1⟩ : ∃ l1, (1048576 : Int) - (m.wt : Int) = l1 := ⟨_, rfl⟩
  rw [hl1]
  have hl1a : 0 ≤ l1 := by omega
  have hl1b : l1 ≤ 1048576 := by omega
  clear g1 el1 hl1
  go_wp2_with fail
  refine (unhide HSF _ l1 (unhide HB1) hl1a hl1b).mono ?_
  rintro r w2 ⟨rfl, hb2⟩
  have K2 := hide ((unhide K1).trans (hb2.mono (unhide K1).size))
  have HB2 := hide ((unhide HB1).trans (hb2.mono (unhide HB1).size))
  clear hb2 HSF K1 HB1
  by_cases g2 : leftI l1 (ys.length + wtFaces ys) < 0
  · generalize leftI l1 (ys.length + wtFaces ys) = L at g2
    go_wp2
    go_ret
    exact ⟨rfl, unhide HB2⟩
  obtain ⟨wt2, el2⟩ := left_ge g2
  rw [el2]
  obtain ⟨l2, hl2⟩ : ∃ l2, l1 - ((ys.length + wtFaces ys : Nat) : Int) = l2 := ⟨_, rfl⟩
  rw [hl2]
  have hl2a : 0 ≤ l2 := by omega
  have hl2b : l2 ≤ 1048576 := by omega
  clear g2 el2 hl2
  go_wp2_with fail
  refine (unhide HSA _ l2 (unhide HB2) hl2a hl2b).mono ?_
  rintro r w3 ⟨rfl, hb3⟩
  have K3 := hide ((unhide K2).trans (hb3.mono (unhide K2).size))
  have HB3 := hide ((unhide HB2).trans (hb3.mono (unhide HB2).size))
  clear hb3 HSA K2 HB2
  by_cases g3 : leftI l2 (vars.length + wtArgs vars) < 0
  · generalize leftI l2 (vars.length + wtArgs vars) = L at g3
    go_wp2
    go_ret
    exact ⟨rfl, unhide HB3⟩
  obtain ⟨wt3, el3⟩ := left_ge g3
  rw [el3]
  obtain ⟨l3, hl3⟩ : ∃ l3, l2 - ((vars.length + wtArgs vars : Nat) : Int) = l3 := ⟨_, rfl⟩
  rw [hl3]
  have hl3a : 0 ≤ l3 := by omega
  have hl3b : l3 ≤ 1048576 := by omega
  clear g3 el3 hl3
  have n1 := (unhide N1).below (unhide K3) (by rw [unhide HWS]; omega)
  have e0 := n1.cellAt (i := 0) rfl
  have e1 := n1.cellAt (i := 1) rfl
  have e2 := n1.cellAt (i := 2) rfl
  have e3 := n1.cellAt (i := 3) rfl
  have e4 := n1.cellAt (i := 4) rfl
  clear n1
  go_wp2_with fail
  refine (unhide HSE _ l3 (unhide HB3) hl3a hl3b).mono ?_
  rintro r w4 ⟨rfl, hb4⟩
  have K4 := hide ((unhide K3).trans (hb4.mono (unhide K3).size))
  have HB4 := hide ((unhide HB3).trans (hb4.mono (unhide HB3).size))
  clear hb4 HSE K3 HB3 e0 e1 e2 e3 e4
  by_cases g4 : leftI l3 e.wt < 0
  · generalize leftI l3 e.wt = L at g4
    go_wp2
    go_ret
    exact ⟨rfl, unhide HB4⟩
  obtain ⟨wt4, el4⟩ := left_ge g4
  have hwm : m.wt ≤ 1048576 := by omega
  have hwy : ys.length + wtFaces ys ≤ 1048576 := by omega
  have hwv : vars.length + wtArgs vars ≤ 1048576 := by omega
  have hwe : e.wt ≤ 1048576 := by omega
  have hne : e.nodes ≤ 1048577 := by have := nodes_wt e; omega
  have HTM' := hide (unhide HTM hwm)
  have HTF' := hide (unhide HTF hwy)
  have HTA' := hide (unhide HTA hwv)
  have HTE' := hide (unhide HTE hwe)
  have HFIT : Hid (Fits m ys) := hide ⟨funs_small hwm, unhide HYL, sigs_small hwy⟩
  have HSP := hide (fun (W' : World) (l0 l1 l2 l3 : Nat) (v' : Value) (a' : Option Addr) (c' : Nat) (va' : Option Addr) (vc' : Nat) (x' : Value) (p1 : IsMod W' l0 W'.heap.size h v' m) (p2 : IsFaces (IsFace W' l1 W'.heap.size) W' l1 W'.heap.size a' ys) (p3 : IsArgs (IsArg W' l2 W'.heap.size) W' l2 W'.heap.size va' vars) (p4 : IsE W' l3 W'.heap.size h4 x' e) => TypeExprS_any l0 h l1 l2 l3 h4 v' m a' c' ys va' vc' vars x' e W' p1 hwm p2 (unhide HFIT) p3 (by omega) p4 hne)
  have HIM := hide (fun (W' : World) (l0 l1 l2 l3 : Nat) (v' : Value) (a' : Option Addr) (c' : Nat) (va' : Option Addr) (vc' : Nat) (x' : Value) (hb : Below w.heap.size w W') (p1 : IsMod W' l0 W'.heap.size h v' m) (p2 : IsFaces (IsFace W' l1 W'.heap.size) W' l1 W'.heap.size a' ys) (p3 : IsArgs (IsArg W' l2 W'.heap.size) W' l2 W'.heap.size va' vars) (p4 : IsE W' l3 W'.heap.size h4 x' e) => TypeExprI_any l0 h l1 l2 l3 h4 v' m a' c' ys va' vc' vars x' e W' ((unhide HG).kept hb) p1 p2 (unhide HFIT) p3 (by omega) p4)
  obtain ⟨T, hT⟩ : ∃ T, typX m ys vars e = T := ⟨_, rfl⟩
  rw [hT] at HSP HIM
  obtain ⟨t, c⟩ := T
  dsimp only at HSP HIM
  generalize leftI l3 e.wt = L at g4
  have hws4 : w.heap.size + 2 ≤ w4.heap.size := by have := (unhide K4).size; rw [unhide HWS] at this; exact this
  have M0 := hide ((unhide N0).below (unhide K4) (by rw [unhide HWS]; omega))
  have M1 := hide ((unhide N1).below (unhide K4) (by rw [unhide HWS]; omega))
  have HSK := hide (fun (w' : World) (hb : Below w4.heap.size w4 w') => (⟨((unhide M0).below hb (by omega)).cellAt (i := 0) rfl, ((unhide M0).below hb (by omega)).cellAt (i := 1) rfl, ((unhide M0).below hb (by omega)).cellAt (i := 2) rfl, ((unhide M1).below hb (by omega)).cellAt (i := 0) rfl, ((unhide M1).below hb (by omega)).cellAt (i := 1) rfl, ((unhide M1).below hb (by omega)).cellAt (i := 2) rfl, ((unhide M1).below hb (by omega)).cellAt (i := 3) rfl, ((unhide M1).below hb (by omega)).cellAt (i := 4) rfl⟩ : w'.cell? ⟨w.heap.size, 0, none⟩ = some (.slice a1 L1 k1) ∧ w'.cell? ⟨w.heap.size, 1, none⟩ = some (.slice a2 L2 k2) ∧ w'.cell? ⟨w.heap.size, 2, none⟩ = some (.slice a3 L3 k3) ∧ w'.cell? ⟨w.heap.size + 1, 0, none⟩ = some (.int .i64 kd) ∧ w'.cell? ⟨w.heap.size + 1, 1, none⟩ = some (.int .i64 mm) ∧ w'.cell? ⟨w.heap.size + 1, 2, none⟩ = some (.string nm) ∧ w'.cell? ⟨w.heap.size + 1, 3, none⟩ = some (.string md) ∧ w'.cell? ⟨w.heap.size + 1, 4, none⟩ = some (.slice ka KL kc)))
  clear el4 hwm hwy hwv hwe hne HTM HTF HTA HTE N0 N1 wt1 wt2 wt3 wt4 hT hl1a hl1b hl2a hl2b hl3a hl3b
  go_wp2
  go_region_held3 (fun w' => w'.cell? ⟨w.heap.size, 0, none⟩ = some (.slice a1 L1 k1) ∧ w'.cell? ⟨w.heap.size, 1, none⟩ = some (.slice a2 L2 k2) ∧ w'.cell? ⟨w.heap.size, 2, none⟩ = some (.slice a3 L3 k3) ∧ w'.cell? ⟨w.heap.size + 1, 0, none⟩ = some (.int .i64 kd) ∧ w'.cell? ⟨w.heap.size + 1, 1, none⟩ = some (.int .i64 mm) ∧ w'.cell? ⟨w.heap.size + 1, 2, none⟩ = some (.string nm) ∧ w'.cell? ⟨w.heap.size + 1, 3, none⟩ = some (.string md) ∧ w'.cell? ⟨w.heap.size + 1, 4, none⟩ = some (.slice ka KL kc))
    (exact unhide HSK _ (by first | with_reducible exact q9 | with_reducible exact q8 | with_reducible exact q7 | with_reducible exact q6 | with_reducible exact q5 | with_reducible exact Below.refl _ _ | with_reducible exact (Below.refl _ _).drew))
    (first
      | (go_at_call 18; refine (unhide HTM' _ (unhide HB4).drew).mono ?_; rintro r w5 ⟨v5, rfl, p5, hb5⟩; have q5 : Below w4.heap.size w4 w5 := (Below.refl _ w4).drew.trans hb5)
      | (go_at_call 19; refine (unhide HTF' w5 ((unhide HB4).trans (q5.mono (unhide HB4).size))).mono ?_; rintro r w6 ⟨a6, c6, rfl, p6, hb6⟩; have q6 : Below w4.heap.size w4 w6 := q5.trans (hb6.mono q5.size))
      | (go_at_call 20; refine (unhide HTA' w6 ((unhide HB4).trans (q6.mono (unhide HB4).size))).mono ?_; rintro r w7 ⟨a7, c7, rfl, p7, hb7⟩; have q7 : Below w4.heap.size w4 w7 := q6.trans (hb7.mono q6.size))
      | (go_at_call 21; refine (unhide HTE' w7 ((unhide HB4).trans (q7.mono (unhide HB4).size))).mono ?_; rintro r w8 ⟨y0, y1, y2, y3, y4, rfl, p8, hb8⟩; have q8 : Below w4.heap.size w4 w8 := q7.trans (hb8.mono q7.size); have b68 := hb7.trans (hb8.mono hb7.size); have b58 := hb6.trans (b68.mono hb6.size))
      | (go_at_call 10; refine (unhide HSP w8 _ _ _ _ v5 a6 c6 a7 c7 _ (IsMod.kept h b58 b58.size _ _ p5) (p6.kept b68 b68.size) (p7.kept hb8 hb8.size) p8).mono ?_; rintro r w9 ⟨rfl, hb9⟩; have q9 : Below w4.heap.size w4 w9 := q8.trans (hb9.mono q8.size)))
  have HB9 := hide ((unhide HB4).trans (q9.mono (unhide HB4).size))
  have hws9 : w.heap.size + 2 ≤ w9.heap.size := Nat.le_trans hws4 q9.size
  have M09 := hide ((unhide M0).below q9 (by omega))
  have M19 := hide ((unhide M1).below q9 (by omega))
  have z0 := (unhide M09).cellAt (i := 0) rfl
  have z1 := (unhide M09).cellAt (i := 1) rfl
  have z2 := (unhide M09).cellAt (i := 2) rfl
  clear p5 p6 p7 p8 hb5 hb6 hb7 hb8 hb9 q5 q6 q7 q8 q9 b68 b58 M0 M1 HSK HSP HB4 hws4 K4
  go_wp2_with fail
  refine (unhide HTM' _ (unhide HB9)).mono ?_
  rintro r w10 ⟨v10, rfl, p10, hb10⟩
  obtain ⟨e1, e2, e3, f1, f2, f3, o1, o2, o3, rfl⟩ := p10.formE
  obtain ⟨A, hA⟩ : ∃ A, A = w10.alloc (.cells #[.slice e1 f1 o1, .slice e2 f2 o2, .slice e3 f3 o3] 27) := ⟨_, rfl⟩
  have hbA : Below w10.heap.size w10 A := by rw [hA]; exact (Below.refl _ _).alloc (Nat.le_refl _) _
  have hAS : A.heap.size = w10.heap.size + 1 := by rw [hA]; simp
  have X0 : Hid (Blk A w10.heap.size [.slice e1 f1 o1, .slice e2 f2 o2, .slice e3 f3 o3]) := hide (by rw [hA]; exact Blk.new w10 _ _)
  have h9A : Below w9.heap.size w9 A := hb10.trans (hbA.mono hb10.size)
  have HBA := hide ((unhide HB9).trans (h9A.mono (unhide HB9).size))
  have P10 := hide (IsMod.kept h hbA hbA.size _ _ p10)
  have M0A := hide ((unhide M09).below h9A (by omega))
  have M1A := hide ((unhide M19).below h9A (by omega))
  have hwsA : w.heap.size + 2 ≤ A.heap.size := Nat.le_trans hws9 h9A.size
  have hXA : w10.heap.size < A.heap.size := by rw [hAS]; exact Nat.lt_succ_self _
  clear hb10 hbA hAS h9A p10 M09 M19 HB9 z0 z1 z2 hws9
  go_wp2_with fail
  rw [← hA]
  clear hA
  refine (unhide HTF' A (unhide HBA)).mono ?_
  rintro r w11 ⟨a11, c11, rfl, p11, hb11⟩
  have HB11 := hide ((unhide HBA).trans (hb11.mono (unhide HBA).size))
  have P11 := hide p11
  have B11 := hide hb11
  clear p11 hb11
  go_wp2_with fail
  refine (unhide HTA' w11 (unhide HB11)).mono ?_
  rintro r w12 ⟨a12, c12, rfl, p12, hb12⟩
  have HB12 := hide ((unhide HB11).trans (hb12.mono (unhide HB11).size))
  have P12 := hide p12
  have B12 := hide hb12
  have BA12 := hide ((unhide B11).trans (hb12.mono (unhide B11).size))
  have m12 := (unhide M1A).below (unhide BA12) (by omega)
  have z0 := m12.cellAt (i := 0) rfl
  have z1 := m12.cellAt (i := 1) rfl
  have z2 := m12.cellAt (i := 2) rfl
  have z3 := m12.cellAt (i := 3) rfl
  have z4 := m12.cellAt (i := 4) rfl
  clear p12 hb12 m12
  go_wp2_with fail
  refine (unhide HTE' w12 (unhide HB12)).mono ?_
  rintro r w13 ⟨y0, y1, y2, y3, y4, rfl, p13, hb13⟩
  obtain ⟨s0, s1, s2, s3, s4, s5, s6, rfl, rfl, rfl, rfl, rfl⟩ := p13.form5
  obtain ⟨B, hB⟩ : ∃ B, B = w13.alloc (.cells #[.int .i64 s0, .int .i64 s1, .string s2, .string s3, .slice s4 s5 s6] 31) := ⟨_, rfl⟩
  have hbB : Below w13.heap.size w13 B := by rw [hB]; exact (Below.refl _ _).alloc (Nat.le_refl _) _
  have hBS : B.heap.size = w13.heap.size + 1 := by rw [hB]; simp
  have X3 : Hid (Blk B w13.heap.size [.int .i64 s0, .int .i64 s1, .string s2, .string s3, .slice s4 s5 s6]) := hide (by rw [hB]; exact Blk.new w13 _ _)
  have h12B : Below w12.heap.size w12 B := hb13.trans (hbB.mono hb13.size)
  have h11B : Below w11.heap.size w11 B := (unhide B12).trans (h12B.mono (unhide B12).size)
  have hAB : Below A.heap.size A B := (unhide BA12).trans (h12B.mono (unhide BA12).size)
  have HBB := hide ((unhide HBA).trans (hAB.mono (unhide HBA).size))
  have PM := hide (IsMod.kept h hAB hAB.size _ _ (unhide P10))
  have PF := hide ((unhide P11).kept h11B h11B.size)
  have PA := hide ((unhide P12).kept h12B h12B.size)
  have PE := hide (IsE.kept hbB hbB.size _ _ _ p13)
  have M0B := hide ((unhide M0A).below hAB (by omega))
  have M1B := hide ((unhide M1A).below hAB (by omega))
  have X0B := hide ((unhide X0).below hAB hXA)
  have hwsB : w.heap.size + 2 ≤ B.heap.size := Nat.le_trans hwsA hAB.size
  have hX0B : w10.heap.size < B.heap.size := Nat.lt_of_lt_of_le hXA hAB.size
  have hX3B : w13.heap.size < B.heap.size := by rw [hBS]; exact Nat.lt_succ_self _
  have hX0w : w10.heap.size < w13.heap.size := Nat.lt_of_lt_of_le hXA (Nat.le_trans (unhide BA12).size hb13.size)
  have hX0n : w10.heap.size ≠ w13.heap.size := by omega
  have x13 : Blk w13 w10.heap.size [.slice e1 f1 o1, .slice e2 f2 o2, .slice e3 f3 o3] := (unhide X0).below ((unhide BA12).trans (hb13.mono (unhide BA12).size)) hXA
  have u0 := x13.cellAt (i := 0) rfl
  have u1 := x13.cellAt (i := 1) rfl
  have u2 := x13.cellAt (i := 2) rfl
  have HIC := hide (unhide HIM B _ _ _ _ (.agg #[.slice e1 f1 o1, .slice e2 f2 o2, .slice e3 f3 o3]) a11 c11 a12 c12 _ (unhide HBB) (unhide PM) (unhide PF) (unhide PA) (unhide PE))
  clear hb13 hbB hBS h12B h11B hAB p13 P10 P11 P12 B11 B12 BA12 M0A M1A X0 HBA HB11 HB12 z0 z1 z2 z3 z4 x13 HIM hwsA hXA
  go_wp2_with fail
  rw [← hB]
  clear hB u0 u1 u2 hX0w hX0n
  refine (unhide HIC).mono ?_
  rintro r w14 ⟨rfl, hb14⟩
  have HB14 := hide ((unhide HBB).trans (hb14.mono (unhide HBB).size))
  have QM := hide (IsMod.kept h hb14 hb14.size _ _ (unhide PM))
  have QF := hide ((unhide PF).kept hb14 hb14.size)
  have QA := hide ((unhide PA).kept hb14 hb14.size)
  have QE := hide (IsE.kept hb14 hb14.size _ _ _ (unhide PE))
  have R0 := hide ((unhide M0B).below hb14 (by omega))
  have R1 := hide ((unhide M1B).below hb14 (by omega))
  have R2 := hide ((unhide X0B).below hb14 hX0B)
  have R3 := hide ((unhide X3).below hb14 hX3B)
  have hws14 : w.heap.size + 2 ≤ w14.heap.size := Nat.le_trans hwsB hb14.size
  have hX0 : w10.heap.size < w14.heap.size := Nat.lt_of_lt_of_le hX0B hb14.size
  have hX3 : w13.heap.size < w14.heap.size := Nat.lt_of_lt_of_le hX3B hb14.size
  have ht1 : (t != t) = false := by simp
  have ht2 : (c != c) = false := by simp
  have HSK1 := hide (fun (w' : World) (hb : Below w14.heap.size w14 w') => (⟨((unhide R0).below hb (by omega)).cellAt (i := 0) rfl, ((unhide R0).below hb (by omega)).cellAt (i := 1) rfl, ((unhide R0).below hb (by omega)).cellAt (i := 2) rfl, ((unhide R2).below hb hX0).cellAt (i := 0) rfl, ((unhide R2).below hb hX0).cellAt (i := 1) rfl, ((unhide R2).below hb hX0).cellAt (i := 2) rfl⟩ : w'.cell? ⟨w.heap.size, 0, none⟩ = some (.slice a1 L1 k1) ∧ w'.cell? ⟨w.heap.size, 1, none⟩ = some (.slice a2 L2 k2) ∧ w'.cell? ⟨w.heap.size, 2, none⟩ = some (.slice a3 L3 k3) ∧ w'.cell? ⟨w10.heap.size, 0, none⟩ = some (.slice e1 f1 o1) ∧ w'.cell? ⟨w10.heap.size, 1, none⟩ = some (.slice e2 f2 o2) ∧ w'.cell? ⟨w10.heap.size, 2, none⟩ = some (.slice e3 f3 o3)))
  clear hb14 PM PF PA PE M0B M1B X0B X3 hwsB hX0B hX3B HBB HIC
  go_wp2
  go_region_held3 (fun w' => w'.cell? ⟨w.heap.size, 0, none⟩ = some (.slice a1 L1 k1) ∧ w'.cell? ⟨w.heap.size, 1, none⟩ = some (.slice a2 L2 k2) ∧ w'.cell? ⟨w.heap.size, 2, none⟩ = some (.slice a3 L3 k3) ∧ w'.cell? ⟨w10.heap.size, 0, none⟩ = some (.slice e1 f1 o1) ∧ w'.cell? ⟨w10.heap.size, 1, none⟩ = some (.slice e2 f2 o2) ∧ w'.cell? ⟨w10.heap.size, 2, none⟩ = some (.slice e3 f3 o3))
    (exact unhide HSK1 _ (by first | with_reducible exact q16 | with_reducible exact q15 | with_reducible exact Below.refl _ _ | with_reducible exact (Below.refl _ _).drew))
    (first
      | (go_at_call 18; refine (unhide HTM' _ (unhide HB14).drew).mono ?_; rintro r w15 ⟨v15, rfl, p15, hb15⟩; have q15 : Below w14.heap.size w14 w15 := (Below.refl _ w14).drew.trans hb15)
      | (go_at_call 22; refine (eqTreeMod_any _ _ h h _ v15 m w15 (IsMod.kept h q15 q15.size _ _ (unhide QM)) p15).mono ?_; rintro r w16 ⟨rfl, hb16⟩; have q16 : Below w14.heap.size w14 w16 := q15.trans (hb16.mono q15.size)))
  have HB16 := hide ((unhide HB14).trans (q16.mono (unhide HB14).size))
  have Q16 := hide q16
  clear p15 hb15 hb16 q15 q16 HSK1 ht1 ht2 HTM' QM R0 R2
  go_wp2_with fail
  refine (unhide HTF' w16 (unhide HB16)).mono ?_
  rintro r w17 ⟨a17, c17, rfl, p17, hb17⟩
  have Q17 := hide ((unhide Q16).trans (hb17.mono (unhide Q16).size))
  have P17 := hide p17
  clear p17 hb17
  go_wp2_with fail
  refine (eqTreeFaceS_of _ _ (eqTypeFace_any _ _) a11 a17 c11 c17 ys w17 (unhide HYL) ((unhide QF).kept (unhide Q17) (unhide Q17).size) (unhide P17)).mono ?_
  rintro r w18 ⟨rfl, hb18⟩
  have Q18 := hide ((unhide Q17).trans (hb18.mono (unhide Q17).size))
  have HB18 := hide ((unhide HB14).trans ((unhide Q18).mono (unhide HB14).size))
  clear hb18 P17 Q17 Q16 HB16 QF
  go_wp2_with fail
  refine (unhide HTA' w18 (unhide HB18)).mono ?_
  rintro r w19 ⟨a19, c19, rfl, p19, hb19⟩
  have Q19 := hide ((unhide Q18).trans (hb19.mono (unhide Q18).size))
  have P19 := hide p19
  clear p19 hb19
  go_wp2_with fail
  refine (eqTreeArgS_of _ _ (eqTreeArg_any _ _) a12 a19 c12 c19 vars w19 (unhide HVL) ((unhide QA).kept (unhide Q19) (unhide Q19).size) (unhide P19)).mono ?_
  rintro r w20 ⟨rfl, hb20⟩
  have hq20 := (unhide Q19).trans (hb20.mono (unhide Q19).size)
  have HB20 := hide ((unhide HB14).trans (hq20.mono (unhide HB14).size))
  have S1 := hide ((unhide R1).below hq20 (by omega))
  have S3 := hide ((unhide R3).below hq20 hX3)
  have SE := hide (IsE.kept hq20 hq20.size _ _ _ (unhide QE))
  have hws20 : w.heap.size + 2 ≤ w20.heap.size := Nat.le_trans hws14 hq20.size
  have hX320 : w13.heap.size < w20.heap.size := Nat.lt_of_lt_of_le hX3 hq20.size
  have HSK2 := hide (fun (w' : World) (hb : Below w20.heap.size w20 w') => (⟨((unhide S1).below hb (by omega)).cellAt (i := 0) rfl, ((unhide S1).below hb (by omega)).cellAt (i := 1) rfl, ((unhide S1).below hb (by omega)).cellAt (i := 2) rfl, ((unhide S1).below hb (by omega)).cellAt (i := 3) rfl, ((unhide S1).below hb (by omega)).cellAt (i := 4) rfl, ((unhide S3).below hb hX320).cellAt (i := 0) rfl, ((unhide S3).below hb hX320).cellAt (i := 1) rfl, ((unhide S3).below hb hX320).cellAt (i := 2) rfl, ((unhide S3).below hb hX320).cellAt (i := 3) rfl, ((unhide S3).below hb hX320).cellAt (i := 4) rfl⟩ : w'.cell? ⟨w.heap.size + 1, 0, none⟩ = some (.int .i64 kd) ∧ w'.cell? ⟨w.heap.size + 1, 1, none⟩ = some (.int .i64 mm) ∧ w'.cell? ⟨w.heap.size + 1, 2, none⟩ = some (.string nm) ∧ w'.cell? ⟨w.heap.size + 1, 3, none⟩ = some (.string md) ∧ w'.cell? ⟨w.heap.size + 1, 4, none⟩ = some (.slice ka KL kc) ∧ w'.cell? ⟨w13.heap.size, 0, none⟩ = some (.int .i64 s0) ∧ w'.cell? ⟨w13.heap.size, 1, none⟩ = some (.int .i64 s1) ∧ w'.cell? ⟨w13.heap.size, 2, none⟩ = some (.string s2) ∧ w'.cell? ⟨w13.heap.size, 3, none⟩ = some (.string s3) ∧ w'.cell? ⟨w13.heap.size, 4, none⟩ = some (.slice s4 s5 s6)))
  clear hb20 hq20 P19 Q19 Q18 HB18 QA QE R1 R3 HB14
  go_wp2
  go_region_held3 (fun w' => w'.cell? ⟨w.heap.size + 1, 0, none⟩ = some (.int .i64 kd) ∧ w'.cell? ⟨w.heap.size + 1, 1, none⟩ = some (.int .i64 mm) ∧ w'.cell? ⟨w.heap.size + 1, 2, none⟩ = some (.string nm) ∧ w'.cell? ⟨w.heap.size + 1, 3, none⟩ = some (.string md) ∧ w'.cell? ⟨w.heap.size + 1, 4, none⟩ = some (.slice ka KL kc) ∧ w'.cell? ⟨w13.heap.size, 0, none⟩ = some (.int .i64 s0) ∧ w'.cell? ⟨w13.heap.size, 1, none⟩ = some (.int .i64 s1) ∧ w'.cell? ⟨w13.heap.size, 2, none⟩ = some (.string s2) ∧ w'.cell? ⟨w13.heap.size, 3, none⟩ = some (.string s3) ∧ w'.cell? ⟨w13.heap.size, 4, none⟩ = some (.slice s4 s5 s6))
    (exact unhide HSK2 _ (by first | with_reducible exact q22 | with_reducible exact q21 | with_reducible exact Below.refl _ _ | with_reducible exact (Below.refl _ _).drew))
    (first
      | (go_at_call 21; refine (unhide HTE' _ (unhide HB20).drew).mono ?_; rintro r w21 ⟨t0, t1, t2, t3, t4, rfl, p21, hb21⟩; have q21 : Below w20.heap.size w20 w21 := (Below.refl _ w20).drew.trans hb21)
      | (go_at_call 25; refine (eqTreeExpr_any _ _ h4 _ _ e w21 h4 (IsE.kept q21 q21.size _ _ _ (unhide SE)) p21).mono ?_; rintro r w22 ⟨rfl, hb22⟩; have q22 : Below w20.heap.size w20 w22 := q21.trans (hb22.mono q21.size)))
  have HBF := hide ((unhide HB20).trans (q22.mono (unhide HB20).size))
  clear p21 hb21 hb22 q21 q22 HSK2
  go_wp2
  go_ret
  exact ⟨rfl, unhide HBF⟩
end Go.Proofs.YtgmohnbjfemebaaGreatDoor
