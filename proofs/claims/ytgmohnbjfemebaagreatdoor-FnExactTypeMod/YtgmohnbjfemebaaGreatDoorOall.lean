/- What is wrong with a module, plain; the walks of spec's l4Has and fun. Conditions: all can be read. The walk of spec's fun. Conditions: all can be read. The walk of spec.TypeMod. Conditions: all can be read; bounds. A check in the making: what is kept of it; the walk of typeCheckOf once more. Conditions: all can be read. The walk of impl's mod. Conditions: all can be read. The walks of impl.TypeMod and of eqTypeFault. Conditions: all can be read; errors.errorType holds the handle of error. The walk of the law on TypeMod: it returns true and turns nothing that was there. Conditions: all can be read; errors.errorType holds the handle of error. -/
import Derived.Test.YtgmohnbjfemebaaGreatDoorEDall
import Derived.Test.YtgmohnbjfemebaaGreatDoorEBall
import Derived.Test.YtgmohnbjfemebaaGreatDoorVe
import Derived.Deep.RegionHeld3
namespace Go.Proofs.YtgmohnbjfemebaaGreatDoor
open Go.RowKit Go.PlainAid

/-- The first that is wrong, with its place. -/
def firstB {α : Type} (p : α → Int) : List α → Nat → Option (Int × Nat)
  | [], _ => none
  | x :: t, k => if p x ≠ 0 then some (p x, k) else firstB p t (k + 1)
theorem firstB_at {α : Type} {p : α → Int} : ∀ {l : List α} {k : Nat} (i : Nat) (hk : k < l.length), (∀ j (hj : j < l.length), j < k → p l[j] = 0) → p l[k] ≠ 0 → firstB p l i = some (p l[k], i + k)
  | x :: t, 0, i, _, _, h => by
    rw [firstB, if_pos (by simpa using h)]
    simp
  | x :: t, k + 1, i, hk, hno, h => by
    have h0 : p x = 0 := hno 0 (by simp) (by omega)
    rw [firstB, if_neg (by rw [h0]; simp), firstB_at (k := k) (i + 1) (by simpa using hk) (fun j hj hjk => by
      have := hno (j + 1) (by simpa using hj) (by omega)
      simpa using this) (by simpa using h)]
    simp
    omega
theorem firstB_none {α : Type} {p : α → Int} : ∀ {l : List α} (i : Nat), (∀ j (hj : j < l.length), p l[j] = 0) → firstB p l i = none
  | [], _, _ => rfl
  | x :: t, i, h => by
    have h0 : p x = 0 := h 0 (by simp)
    rw [firstB, if_neg (by rw [h0]; simp), firstB_none (i + 1) (fun j hj => by
      have := h (j + 1) (by simpa using hj)
      simpa using this)]
def hasY (ys : List TY) (u : ByteArray) : Bool := ys.any (isMod u)
def useC (ys : List TY) (u : ByteArray) : Int := if hasY ys u = true then 0 else 1
def funC (F : Fnd) (f : TF) : Int := if (f.body.typ F f.args).2 = 0 ∧ (f.body.typ F f.args).1 ≠ f.type then 4 else (f.body.typ F f.args).2
def mainC (F : Fnd) (e : TE) : Int := (e.typ F []).2
/-- What is wrong with a module: a code and a place. -/
def modT (m : TM) (ys : List TY) : Int × Int :=
  if m.okB = false then (5, 0) else match firstB (useC ys) m.uses 0 with
  | some (c, k) => (c, (k : Int))
  | none => match firstB (funC (findSig m ys)) m.funs 0 with
    | some (c, k) => (c, (k : Int))
    | none => match firstB (mainC (findSig m ys)) m.main 0 with
      | some (c, _) => (c, (m.funs.length : Int))
      | none => (0, 0)
theorem modT_bad {m : TM} {ys : List TY} (h : m.okB = false) : modT m ys = (5, 0) := by unfold modT; rw [if_pos h]
theorem modT_use {m : TM} {ys : List TY} {k : Nat} (h : m.okB = true) (hk : k < m.uses.length) (hno : ∀ j (hj : j < m.uses.length), j < k → hasY ys m.uses[j] = true) (he : hasY ys m.uses[k] = false) : modT m ys = (1, (k : Int)) := by
  unfold modT
  rw [if_neg (by rw [h]; simp), firstB_at (p := useC ys) 0 hk (fun j hj hjk => by unfold useC; rw [if_pos (hno j hj hjk)]) (by unfold useC; rw [if_neg (by rw [he]; simp)]; simp)]
  unfold useC
  simp [he]
theorem modT_fun {m : TM} {ys : List TY} {k : Nat} (h : m.okB = true) (hu : ∀ j (hj : j < m.uses.length), hasY ys m.uses[j] = true) (hk : k < m.funs.length) (hno : ∀ j (hj : j < m.funs.length), j < k → funC (findSig m ys) m.funs[j] = 0) (he : funC (findSig m ys) m.funs[k] ≠ 0) : modT m ys = (funC (findSig m ys) m.funs[k], (k : Int)) := by
  unfold modT
  rw [if_neg (by rw [h]; simp), firstB_none (p := useC ys) 0 (fun j hj => by unfold useC; rw [if_pos (hu j hj)]), firstB_at (p := funC (findSig m ys)) 0 hk hno he]
  simp
theorem modT_main {m : TM} {ys : List TY} {k : Nat} (h : m.okB = true) (hu : ∀ j (hj : j < m.uses.length), hasY ys m.uses[j] = true) (hf : ∀ j (hj : j < m.funs.length), funC (findSig m ys) m.funs[j] = 0) (hk : k < m.main.length) (hno : ∀ j (hj : j < m.main.length), j < k → mainC (findSig m ys) m.main[j] = 0) (he : mainC (findSig m ys) m.main[k] ≠ 0) : modT m ys = (mainC (findSig m ys) m.main[k], (m.funs.length : Int)) := by
  unfold modT
  rw [if_neg (by rw [h]; simp), firstB_none (p := useC ys) 0 (fun j hj => by unfold useC; rw [if_pos (hu j hj)]), firstB_none (p := funC (findSig m ys)) 0 hf, firstB_at (p := mainC (findSig m ys)) 0 hk hno he]
theorem modT_good {m : TM} {ys : List TY} (h : m.okB = true) (hu : ∀ j (hj : j < m.uses.length), hasY ys m.uses[j] = true) (hf : ∀ j (hj : j < m.funs.length), funC (findSig m ys) m.funs[j] = 0) (hm : ∀ j (hj : j < m.main.length), mainC (findSig m ys) m.main[j] = 0) : modT m ys = (0, 0) := by
  unfold modT
  rw [if_neg (by rw [h]; simp), firstB_none (p := useC ys) 0 (fun j hj => by unfold useC; rw [if_pos (hu j hj)]), firstB_none (p := funC (findSig m ys)) 0 hf, firstB_none (p := mainC (findSig m ys)) 0 hm]
theorem size_deep : ∀ (l : List TE) (n : Nat), sizeFrom n l = true → ∀ e ∈ l, e.deep ≤ 16
  | [], _, _, e, h => by cases h
  | x :: t, n, h, e, he => by
    rw [sizeFrom] at h
    simp only [Bool.and_eq_true, decide_eq_true_eq] at h
    rcases List.mem_cons.1 he with rfl | he
    · exact h.2.1
    · exact size_deep t _ h.2.2 e he
theorem ok_parts {m : TM} (h : m.okB = true) : (m.uses.length ≤ 4 ∧ m.funs.length ≤ 8 ∧ m.main.length ≤ 1) ∧ (∀ f ∈ m.funs, f.args.length ≤ 4 ∧ f.body.ok = true ∧ f.body.deep ≤ 16) ∧ ∀ e ∈ m.main, e.ok = true ∧ e.deep ≤ 16 := by
  unfold TM.okB at h
  simp only [Bool.and_eq_true, decide_eq_true_eq] at h
  obtain ⟨h1, h2, h3, _, h5, h6, _, h8⟩ := h
  have hd := size_deep _ _ h5
  refine ⟨⟨h1, h2, h3⟩, fun f hf => ?_, fun e he => ?_⟩
  · have := List.all_eq_true.1 h6 f hf
    simp only [Bool.and_eq_true] at this
    have hh := this.1
    unfold TF.headB at hh
    simp only [Bool.and_eq_true, decide_eq_true_eq] at hh
    exact ⟨hh.1, this.2, hd _ (by unfold TM.bodies; simp; exact .inl ⟨f, hf, rfl⟩)⟩
  · rw [okL_all, List.all_eq_true] at h8
    exact ⟨h8 e he, hd _ (by unfold TM.bodies; simp; exact .inr he)⟩
theorem funC_code (F : Fnd) (f : TF) : 0 ≤ funC F f := by
  unfold funC
  split
  · omega
  · exact (typ_code F f.body f.args).1

set_option maxHeartbeats 1000000 in
theorem l4Has_any (lo : Nat) (a : Option Addr) (cap : Nat) (ys : List TY) (u : ByteArray) (w : World) (h : IsFaces (IsFace w lo w.heap.size) w lo w.heap.size a ys) (hl : ys.length ≤ maxLen) :
    Calls Tryz.prog 43 #[.slice a ys.length cap, .string u] w fun r w' => r = .returned (.bool (hasY ys u)) ∧ w = w' := by
  unfold maxLen at hl
  have HW := hide h
  clear h
  obtain ⟨R, hR⟩ : ∃ R, hasY ys u = R := ⟨_, rfl⟩
  rw [hR]
  have HR := hide hR
  clear hR
  go_enter Tryz.func43, Tryz.ntmps43
  go_wp2
  go_loop [5] (fun i => ∃ k : Nat, k ≤ ys.length ∧ i = .int .i64 k ∧ Hid (∀ j (hj : j < ys.length), j < k → isMod u ys[j] = false)) (fun i => ys.length - (intOf i).toNat)
  case atStart => exact ⟨0, Nat.zero_le _, rfl, hide (fun j _ hj => absurd hj (Nat.not_lt_zero _))⟩
  case round =>
    obtain ⟨k, hk, rfl, HN⟩ := hrel
    by_cases hp : k < ys.length
    · rcases unhide HW with hq | ⟨b, off, rfl, hbl, hbn, hcs⟩
      · rw [hq] at hp; simp at hp
      obtain ⟨c0, c1, d0, d1, hr⟩ := hcs k hp
      obtain ⟨aa, ca, hv, hz, _⟩ := hr
      simp only [Value.agg.injEq, Array.mk.injEq, List.cons.injEq, and_true] at hv
      obtain ⟨rfl, rfl⟩ := hv
      have HNX : Hid (isMod u (ys[k]'hp) = false → ∀ j (hj : j < ys.length), j < k + 1 → isMod u ys[j] = false) := hide (fun h2 j hj hjk => by
        by_cases e : j = k
        · subst e; exact h2
        · exact unhide HN j hj (by omega))
      have HFX : Hid (isMod u (ys[k]'hp) = true → R = true) := hide (fun h2 => by rw [← unhide HR]; exact List.any_eq_true.2 ⟨_, List.getElem_mem hp, h2⟩)
      obtain ⟨x, hx⟩ : ∃ x, ys[k]'hp = x := ⟨_, rfl⟩
      rw [hx] at d0 d1 HNX HFX
      have HIS : Hid (isMod u x = (x.mod.toList == u.toList)) := hide rfl
      clear hcs hx hz
      cases he : (x.mod.toList == u.toList) with
      | true =>
        have HE := hide (unhide HFX ((unhide HIS).trans he))
        go_wp2
        go_ret
        exact ⟨ret_bool (unhide HE).symm, rfl⟩
      | false =>
        have HE := hide (unhide HNX ((unhide HIS).trans he))
        go_wp2
        go_round
        case rel => exact ⟨k + 1, by omega, by go_num, HE⟩
        case measure => simp [intOf]; omega
    · have HE : Hid (R = false) := hide (by
        rw [← unhide HR]
        unfold hasY
        rw [List.any_eq_false]
        intro x hx
        obtain ⟨j, hj, rfl⟩ := List.getElem_of_mem hx
        rw [unhide HN j hj (by omega)]
        simp)
      go_wp2
      go_ret
      exact ⟨ret_bool (unhide HE).symm, rfl⟩
end Go.Proofs.YtgmohnbjfemebaaGreatDoor

namespace Go.Proofs.YtgmohnbjfemebaaGreatDoor
open Go.RowKit Go.PlainAid

set_option maxRecDepth 100000 in
set_option maxHeartbeats 4000000 in
theorem funS_any (P : Nat) (m : TM) (ys : List TY) (hF : Fits m ys) (lo h : Nat) (v : Value) (f : TF) (w : World) (hv : IsFun w lo w.heap.size h v f) (hC : Ctx w P m ys) (hok : f.body.ok = true) (hd : f.args.length + f.body.deep ≤ 1100000) :
    Calls Tryz.prog 44 #[.pointer (some ⟨P, 0, none⟩), v] w fun r w' => r = .returned (.int .i64 (funC (findSig m ys) f)) ∧ Below w.heap.size w w' := by
  obtain ⟨aa, ca, b0, b1, b2, b3, b4, rfl, hz, ha, hE⟩ := hv
  obtain ⟨z0, z1, z2, z3, z4, z5, z6, rfl, rfl, rfl, rfl, rfl⟩ := hE.form5
  have HCALL := hide (fun (W' : World) (hb : Below w.heap.size w W') => exprS_any P m ys hF h lo lo _ _ W' aa ca f.args (IsE.kept hb hb.size _ _ _ hE) hok (hC.kept hb) (ha.kept hb hb.size) hd)
  obtain ⟨R, hR⟩ : ∃ R, funC (findSig m ys) f = R := ⟨_, rfl⟩
  rw [hR]
  have HR : Hid (R = if (f.body.typ (findSig m ys) f.args).2 = 0 ∧ (f.body.typ (findSig m ys) f.args).1 ≠ f.type then 4 else (f.body.typ (findSig m ys) f.args).2) := hide hR.symm
  obtain ⟨T, hT⟩ : ∃ T, f.body.typ (findSig m ys) f.args = T := ⟨_, rfl⟩
  rw [hT] at HCALL HR
  obtain ⟨t, c⟩ := T
  dsimp only at HCALL HR
  obtain ⟨ty, hty⟩ : ∃ ty, f.type = ty := ⟨_, rfl⟩
  rw [hty] at HR ⊢
  obtain ⟨AL, hAL⟩ : ∃ AL, f.args.length = AL := ⟨_, rfl⟩
  rw [hAL] at HCALL ⊢
  obtain ⟨W, hW⟩ : ∃ W, W = w.alloc (.cells #[.string f.name, .bool f.pub, .slice aa AL ca, .int .i64 ty, .int .i64 z0, .int .i64 z1, .string z2, .string z3, .slice z4 z5 z6] 108) := ⟨_, rfl⟩
  have HBW : Hid (Below w.heap.size w W) := hide (by rw [hW]; exact (Below.refl _ _).alloc (Nat.le_refl _) _)
  have HWS : Hid (W.heap.size = w.heap.size + 1) := hide (by rw [hW]; simp)
  have N0 : Hid (Blk W w.heap.size [.string f.name, .bool f.pub, .slice aa AL ca, .int .i64 ty, .int .i64 z0, .int .i64 z1, .string z2, .string z3, .slice z4 z5 z6]) := hide (by rw [hW]; exact Blk.new w _ _)
  clear hz ha hE hC hok hd hR hT hty hAL
  go_enter Tryz.func44, Tryz.ntmps44
  go_wp2_with fail
  rw [← hW]
  clear hW
  refine (unhide HCALL _ (unhide HBW)).mono ?_
  rintro r w2 ⟨rfl, hb2⟩
  have HB2 := hide ((unhide HBW).trans (hb2.mono (by rw [unhide HWS]; exact Nat.le_succ _)))
  have e3 := ((unhide N0).below hb2 (by rw [unhide HWS]; exact Nat.lt_succ_self _)).cellAt (i := 3) rfl
  clear hb2 HCALL
  by_cases hc : c = 0
  · subst hc
    have gc : ((0 : Int) == 0) = true := rfl
    by_cases ht : t = ty
    · subst ht
      have gt : (t != t) = false := by simp
      have HX : Hid (R = 0) := hide (by rw [unhide HR, if_neg (by simp)])
      clear HR
      go_wp2
      go_ret
      exact ⟨ret_int (unhide HX).symm, unhide HB2⟩
    · have gt : (t != ty) = true := by simpa using ht
      have HX : Hid (R = 4) := hide (by rw [unhide HR, if_pos ⟨rfl, ht⟩])
      clear HR
      go_wp2
      go_ret
      exact ⟨ret_int (unhide HX).symm, unhide HB2⟩
  · have gc : (c == 0) = false := by simpa using hc
    have HX : Hid (R = c) := hide (by rw [unhide HR, if_neg (fun g => hc g.1)])
    clear HR
    go_wp2
    go_ret
    exact ⟨ret_int (unhide HX).symm, unhide HB2⟩
end Go.Proofs.YtgmohnbjfemebaaGreatDoor

namespace Go.Proofs.YtgmohnbjfemebaaGreatDoor
open Go.RowKit Go.PlainAid

set_option maxRecDepth 100000 in
set_option maxHeartbeats 2000000 in
theorem TypeModS_any (lo h lo2 : Nat) (v : Value) (m : TM) (a : Option Addr) (cap : Nat) (ys : List TY) (w : World)
    (hM : IsMod w lo w.heap.size h v m) (hwt : m.wt ≤ 1048576) (hY : IsFaces (IsFace w lo2 w.heap.size) w lo2 w.heap.size a ys) (hF : Fits m ys) :
    Calls Tryz.prog 13 #[v, .slice a ys.length cap] w fun r w' => r = .returned (.agg #[.int .i64 (modT m ys).1, .int .i64 (modT m ys).2]) ∧ Below w.heap.size w w' := by
  have HOK := hide (fun (W' : World) (hb : Below w.heap.size w W') => TreeOkS_any lo h v m W' (IsMod.kept h hb hb.size _ _ hM) hwt)
  have HHAS := hide (fun (W' : World) (u : ByteArray) (hb : Below w.heap.size w W') => l4Has_any lo2 a cap ys u W' (hY.kept hb hb.size) hF.2.1)
  have HM := hide hM
  have HY := hide hY
  have HF := hide hF
  have HBADT := hide (modT_bad (m := m) (ys := ys))
  have HUSET := hide (fun (k : Nat) h1 hk h2 h3 => modT_use (m := m) (ys := ys) (k := k) h1 hk h2 h3)
  have HFUNT := hide (fun (k : Nat) h1 h2 hk h3 h4 => modT_fun (m := m) (ys := ys) (k := k) h1 h2 hk h3 h4)
  have HMAINT := hide (fun (k : Nat) h1 h2 h3 hk h4 h5 => modT_main (m := m) (ys := ys) (k := k) h1 h2 h3 hk h4 h5)
  have HGOODT := hide (modT_good (m := m) (ys := ys))
  obtain ⟨R, hR⟩ : ∃ R, modT m ys = R := ⟨_, rfl⟩
  rw [hR] at HBADT HUSET HFUNT HMAINT HGOODT ⊢
  clear hR
  obtain ⟨a1, a2, a3, k1, k2, k3, hv, hz, q1, q2, q3⟩ := hM
  subst hv
  have hz1 := hz.1
  have hz2 := hz.2.1
  unfold maxLen at hz1 hz2
  have Q1 := hide q1
  have Q2 := hide q2
  have Q3 := hide q3
  obtain ⟨L1, hL1⟩ : ∃ L1, m.uses.length = L1 := ⟨_, rfl⟩
  obtain ⟨L2, hL2⟩ : ∃ L2, m.funs.length = L2 := ⟨_, rfl⟩
  obtain ⟨L3, hL3⟩ : ∃ L3, m.main.length = L3 := ⟨_, rfl⟩
  rw [hL1, hL2, hL3] at HOK HM ⊢
  rw [hL1] at hz1
  rw [hL2] at hz2
  have HL1 := hide hL1
  have HL2 := hide hL2
  have HL3 := hide hL3
  obtain ⟨W, hW⟩ : ∃ W, W = (w.alloc (.cells #[.slice a1 L1 k1, .slice a2 L2 k2, .slice a3 L3 k3] 27)).alloc (.cells #[.int .i64 0, .int .i64 0] 45) := ⟨_, rfl⟩
  have HBW : Hid (Below w.heap.size w W) := hide (by rw [hW]; exact ((Below.refl _ _).alloc (Nat.le_refl _) _).alloc (by simp) _)
  have HWS : Hid (W.heap.size = w.heap.size + 2) := hide (by rw [hW]; simp)
  have N0 : Hid (Blk W w.heap.size [.slice a1 L1 k1, .slice a2 L2 k2, .slice a3 L3 k3]) := hide (by rw [hW]; exact (Blk.new w [.slice a1 L1 k1, .slice a2 L2 k2, .slice a3 L3 k3] _).old _ (by simp))
  have N1 : Hid (Blk W (w.heap.size + 1) [.int .i64 0, .int .i64 0]) := hide (by rw [hW]; have := Blk.new (w.alloc (.cells #[.slice a1 L1 k1, .slice a2 L2 k2, .slice a3 L3 k3] 27)) [.int .i64 0, .int .i64 0] 45; rw [alloc_size] at this; exact this)
  clear q1 q2 q3 hz hY hF hwt hL1 hL2 hL3
  go_enter Tryz.func13, Tryz.ntmps13
  go_wp2_with fail
  rw [← hW]
  clear hW
  refine (unhide HOK _ (unhide HBW)).mono ?_
  rintro r w2 ⟨rfl, hb2⟩
  have K2 := hide hb2
  have HB2 := hide ((unhide HBW).trans (hb2.mono (by rw [unhide HWS]; omega)))
  have M1 := hide ((unhide N1).below hb2 (by rw [unhide HWS]; omega))
  have r0 := (unhide M1).cellAt (i := 0) rfl
  have r1 := (unhide M1).cellAt (i := 1) rfl
  have rf0 := (unhide M1).2 0
  have rf1 := (unhide M1).2 1
  clear hb2 HOK
  cases hok : m.okB with
  | false =>
    have HX := hide (unhide HBADT hok)
    clear HBADT HUSET HFUNT HMAINT HGOODT hok
    go_wp2
    have hn := ((unhide M1).set 0 (.int .i64 5) (by simp)).set 1 (.int .i64 0) (by simp)
    have hFB := ((unhide HB2).setCell (p := ⟨w.heap.size + 1, 0, none⟩) (show w.heap.size ≤ w.heap.size + 1 from Nat.le_succ _) (.int .i64 5)).setCell (p := ⟨w.heap.size + 1, 1, none⟩) (show w.heap.size ≤ w.heap.size + 1 from Nat.le_succ _) (.int .i64 0)
    obtain ⟨FW, hF⟩ : ∃ FW, FW = (w2.setCell ⟨w.heap.size + 1, 0, none⟩ (.int .i64 5)).setCell ⟨w.heap.size + 1, 1, none⟩ (.int .i64 0) := ⟨_, rfl⟩
    rw [← hF] at hn hFB ⊢
    have g0 := hn.cellAt (i := 0) rfl
    have g1 := hn.cellAt (i := 1) rfl
    refine bodyPost_ret (v := .agg #[.int .i64 5, .int .i64 0]) (by simp [results, Tryz.results13, go_sem, g0, g1]) rfl ⟨?_, hFB⟩
    rw [unhide HX]
  | true =>
    have HPARTS := hide (ok_parts hok)
    have HUSET' := hide (fun k => unhide HUSET k hok)
    have HFUNT' := hide (fun k => unhide HFUNT k hok)
    have HMAINT' := hide (fun k => unhide HMAINT k hok)
    have HGOODT' := hide (unhide HGOODT hok)
    clear HBADT HUSET HFUNT HMAINT HGOODT hok r0 r1 rf0 rf1
    go_wp2
    go_loopw [5] (fun i wr => ∃ k : Nat, k ≤ L1 ∧ i = .int .i64 k ∧ Hid (∀ j (hj : j < m.uses.length), j < k → hasY ys m.uses[j] = true) ∧ Hid (Below W.heap.size W wr)) (fun i _ => L1 - (intOf i).toNat)
    case atStart => exact ⟨0, Nat.zero_le _, rfl, hide (fun j _ hj => absurd hj (Nat.not_lt_zero _)), K2⟩
    case round =>
      obtain ⟨k, hk, rfl, HN, HB⟩ := hrel
      have HWR := hide ((unhide HBW).trans ((unhide HB).mono (by rw [unhide HWS]; omega)))
      have M0 := hide ((unhide N0).below (unhide HB) (by rw [unhide HWS]; omega))
      have M1 := hide ((unhide N1).below (unhide HB) (by rw [unhide HWS]; omega))
      have m0 := (unhide M0).cellAt (i := 0) rfl
      by_cases hp : k < L1
      · have hp2 : k < m.uses.length := by rw [unhide HL1]; exact hp
        rcases (unhide Q1).kept (unhide HWR) (unhide HWR).size with hq | ⟨b, off, rfl, hbl, hbn, hcs⟩
        · rw [hq] at hp2; simp at hp2
        have hck := hcs k hp2
        have HBADU := hide (fun h3 => unhide HUSET' k hp2 (fun j hj hjk => unhide HN j hj hjk) h3)
        have HNX := hide (fun (h3 : hasY ys (m.uses[k]'hp2) = true) (j : Nat) (hj : j < m.uses.length) (hjk : j < k + 1) => show hasY ys m.uses[j] = true from by
          by_cases e : j = k
          · subst e; exact h3
          · exact unhide HN j hj (by omega))
        obtain ⟨u, hu⟩ : ∃ u, m.uses[k]'hp2 = u := ⟨_, rfl⟩
        rw [hu] at hck HBADU HNX
        have HCH := hide (unhide HHAS wr u (unhide HWR))
        obtain ⟨hy, hhy⟩ : ∃ hy, hasY ys u = hy := ⟨_, rfl⟩
        rw [hhy] at HCH HBADU HNX
        clear hcs hu hhy
        go_wp2_with fail
        refine (unhide HCH).mono ?_
        rintro r w3 ⟨rfl, rfl⟩
        cases hy with
        | false =>
          have HX := hide (unhide HBADU rfl)
          have r0 := (unhide M1).cellAt (i := 0) rfl
          have r1 := (unhide M1).cellAt (i := 1) rfl
          have rf0 := (unhide M1).2 0
          have rf1 := (unhide M1).2 1
          clear HBADU HNX HCH
          go_wp2
          have hn := ((unhide M1).set 0 (.int .i64 1) (by simp)).set 1 (.int .i64 (k : Int)) (by simp)
          have hFB := ((unhide HWR).setCell (p := ⟨w.heap.size + 1, 0, none⟩) (show w.heap.size ≤ w.heap.size + 1 from Nat.le_succ _) (.int .i64 1)).setCell (p := ⟨w.heap.size + 1, 1, none⟩) (show w.heap.size ≤ w.heap.size + 1 from Nat.le_succ _) (.int .i64 (k : Int))
          obtain ⟨FW, hF⟩ : ∃ FW, FW = (wr.setCell ⟨w.heap.size + 1, 0, none⟩ (.int .i64 1)).setCell ⟨w.heap.size + 1, 1, none⟩ (.int .i64 (k : Int)) := ⟨_, rfl⟩
          rw [← hF] at hn hFB ⊢
          have g0 := hn.cellAt (i := 0) rfl
          have g1 := hn.cellAt (i := 1) rfl
          refine bodyPost_ret (v := .agg #[.int .i64 1, .int .i64 (k : Int)]) (by simp [results, Tryz.results13, go_sem, g0, g1]) rfl ⟨?_, hFB⟩
          rw [unhide HX]
        | true =>
          have HE := hide (unhide HNX rfl)
          clear HBADU HNX HCH
          go_wp2
          go_roundw
          case rel => exact ⟨k + 1, by omega, by go_num, HE, HB⟩
          case measure => simp [intOf]; omega
      · have HUS : Hid (∀ j (hj : j < m.uses.length), hasY ys m.uses[j] = true) := hide (fun j hj => unhide HN j hj (by have := unhide HL1; omega))
        have HFUN2 := hide (fun k hk h3 h4 => unhide HFUNT' k (unhide HUS) hk h3 h4)
        have HMAIN2 := hide (fun k h3 hk h4 h5 => unhide HMAINT' k (unhide HUS) h3 hk h4 h5)
        have HGOOD2 := hide (unhide HGOODT' (unhide HUS))
        have m1 := (unhide M0).cellAt (i := 1) rfl
        have m2 := (unhide M0).cellAt (i := 2) rfl
        clear HUSET' HFUNT' HMAINT' HGOODT' HN
        obtain ⟨A, hA⟩ : ∃ A, A = wr.alloc (.cells #[.slice a1 L1 k1, .slice a2 L2 k2, .slice a3 L3 k3, .slice a ys.length cap] 102) := ⟨_, rfl⟩
        have hbA : Below wr.heap.size wr A := by rw [hA]; exact (Below.refl _ _).alloc (Nat.le_refl _) _
        have HBA := hide ((unhide HWR).trans (hbA.mono (unhide HWR).size))
        have HCA : Hid (Ctx A wr.heap.size m ys) := hide ⟨by rw [hA]; simp, _, _, _, a, cap, lo, h, lo2, by rw [hA]; exact alloc_cell wr _ _ 0, by rw [hA]; exact alloc_cell wr _ _ 1, by rw [hA]; exact alloc_cell wr _ _ 2, by rw [hA]; exact alloc_cell wr _ _ 3, IsMod.kept h (unhide HBA) (unhide HBA).size _ _ (unhide HM), (unhide HY).kept (unhide HBA) (unhide HBA).size⟩
        have hws : w.heap.size + 2 ≤ wr.heap.size := by have := (unhide HB).size; rw [unhide HWS] at this; exact this
        have hwA : w.heap.size + 2 ≤ A.heap.size := Nat.le_trans hws hbA.size
        have A0 := hide ((unhide M0).below hbA (by omega))
        have A1 := hide ((unhide M1).below hbA (by omega))
        clear hbA
        go_wp2
        rw [← hA]
        obtain ⟨PN, hPN⟩ : ∃ PN, wr.heap.size = PN := ⟨_, rfl⟩
        rw [hPN] at HCA ⊢
        clear hA m0 m1 m2 M0 M1 hPN hws HWR HB
        go_loopw [7, 8] (fun i _ wq => ∃ k : Nat, k ≤ L2 ∧ i = .int .i64 k ∧ Hid (∀ j (hj : j < m.funs.length), j < k → funC (findSig m ys) m.funs[j] = 0) ∧ Hid (Below A.heap.size A wq)) (fun i _ _ => L2 - (intOf i).toNat)
        case atStart => exact ⟨0, Nat.zero_le _, rfl, hide (fun j _ hj => absurd hj (Nat.not_lt_zero _)), hide (Below.refl _ _)⟩
        case round =>
          obtain ⟨k, hk, rfl, HN, HB⟩ := hrel
          have HWR := hide ((unhide HBA).trans ((unhide HB).mono (unhide HBA).size))
          have M0 := hide ((unhide A0).below (unhide HB) (by omega))
          have M1 := hide ((unhide A1).below (unhide HB) (by omega))
          have m1 := (unhide M0).cellAt (i := 1) rfl
          by_cases hp : k < L2
          · have hp2 : k < m.funs.length := by rw [unhide HL2]; exact hp
            rcases (unhide Q2).kept (unhide HWR) (unhide HWR).size with hq | ⟨b, off, rfl, hbl, hbn, hcs⟩
            · rw [hq] at hp2; simp at hp2
            obtain ⟨c0, c1, c2, c3, c4, c5, c6, c7, c8, d0, d1, d2, d3, d4, d5, d6, d7, d8, hr⟩ := hcs k hp2
            have hpt := (unhide HPARTS).2.1 _ (List.getElem_mem hp2)
            have HCF := hide (funS_any PN m ys (unhide HF) lo h _ _ wr hr ((unhide HCA).kept (unhide HB)) hpt.2.1 (by omega))
            have HBADF := hide (fun h4 => unhide HFUN2 k hp2 (fun j hj hjk => unhide HN j hj hjk) h4)
            have HNX := hide (fun (h3 : funC (findSig m ys) (m.funs[k]'hp2) = 0) (j : Nat) (hj : j < m.funs.length) (hjk : j < k + 1) => show funC (findSig m ys) m.funs[j] = 0 from by
              by_cases e : j = k
              · subst e; exact h3
              · exact unhide HN j hj (by omega))
            have hcode := funC_code (findSig m ys) (m.funs[k]'hp2)
            obtain ⟨c, hcc⟩ : ∃ c, funC (findSig m ys) (m.funs[k]'hp2) = c := ⟨_, rfl⟩
            rw [hcc] at HCF HBADF HNX hcode
            clear hcs hr hcc hpt
            go_wp2_with fail
            refine (unhide HCF).mono ?_
            rintro r w3 ⟨rfl, hb3⟩
            have HB3 := hide ((unhide HB).trans (hb3.mono (unhide HB).size))
            have HWR3 := hide ((unhide HWR).trans (hb3.mono (unhide HWR).size))
            have hws3 : w.heap.size + 2 ≤ wr.heap.size := Nat.le_trans hwA (unhide HB).size
            have M13 := hide ((unhide M1).below hb3 (by omega))
            clear hb3 HCF d0 d1 d2 d3 d4 d5 d6 d7 d8 m1 M0 M1
            by_cases hc : c = 0
            · subst hc
              have HE := hide (unhide HNX rfl)
              clear HBADF HNX
              go_wp2
              go_roundw
              case rel => exact ⟨k + 1, by omega, by go_num, HE, HB3⟩
              case measure => simp [intOf]; omega
            · have hcp : 0 < c := by omega
              have HX := hide (unhide HBADF hc)
              have r0 := (unhide M13).cellAt (i := 0) rfl
              have r1 := (unhide M13).cellAt (i := 1) rfl
              have rf0 := (unhide M13).2 0
              have rf1 := (unhide M13).2 1
              clear HBADF HNX
              go_wp2
              have hn := ((unhide M13).set 0 (.int .i64 c) (by simp)).set 1 (.int .i64 (k : Int)) (by simp)
              have hFB := ((unhide HWR3).setCell (p := ⟨w.heap.size + 1, 0, none⟩) (show w.heap.size ≤ w.heap.size + 1 from Nat.le_succ _) (.int .i64 c)).setCell (p := ⟨w.heap.size + 1, 1, none⟩) (show w.heap.size ≤ w.heap.size + 1 from Nat.le_succ _) (.int .i64 (k : Int))
              obtain ⟨FW, hF⟩ : ∃ FW, FW = (w3.setCell ⟨w.heap.size + 1, 0, none⟩ (.int .i64 c)).setCell ⟨w.heap.size + 1, 1, none⟩ (.int .i64 (k : Int)) := ⟨_, rfl⟩
              rw [← hF] at hn hFB ⊢
              have g0 := hn.cellAt (i := 0) rfl
              have g1 := hn.cellAt (i := 1) rfl
              refine bodyPost_ret (v := .agg #[.int .i64 c, .int .i64 (k : Int)]) (by simp [results, Tryz.results13, go_sem, g0, g1]) rfl ⟨?_, hFB⟩
              rw [unhide HX]
          · have HFU : Hid (∀ j (hj : j < m.funs.length), funC (findSig m ys) m.funs[j] = 0) := hide (fun j hj => unhide HN j hj (by have := unhide HL2; omega))
            have m2 := (unhide M0).cellAt (i := 2) rfl
            have hws3 : w.heap.size + 2 ≤ wr.heap.size := Nat.le_trans hwA (unhide HB).size
            by_cases h0 : L3 = 0
            · have HX := hide (unhide HGOOD2 (unhide HFU) (fun j hj => absurd hj (by rw [unhide HL3, h0]; exact Nat.not_lt_zero _)))
              subst h0
              have r0 := (unhide M1).cellAt (i := 0) rfl
              have r1 := (unhide M1).cellAt (i := 1) rfl
              have rf0 := (unhide M1).2 0
              have rf1 := (unhide M1).2 1
              go_wp2
              have hn := ((unhide M1).set 0 (.int .i64 0) (by simp)).set 1 (.int .i64 0) (by simp)
              have hFB := ((unhide HWR).setCell (p := ⟨w.heap.size + 1, 0, none⟩) (show w.heap.size ≤ w.heap.size + 1 from Nat.le_succ _) (.int .i64 0)).setCell (p := ⟨w.heap.size + 1, 1, none⟩) (show w.heap.size ≤ w.heap.size + 1 from Nat.le_succ _) (.int .i64 0)
              obtain ⟨FW, hF⟩ : ∃ FW, FW = (wr.setCell ⟨w.heap.size + 1, 0, none⟩ (.int .i64 0)).setCell ⟨w.heap.size + 1, 1, none⟩ (.int .i64 0) := ⟨_, rfl⟩
              rw [← hF] at hn hFB ⊢
              have g0 := hn.cellAt (i := 0) rfl
              have g1 := hn.cellAt (i := 1) rfl
              refine bodyPost_ret (v := .agg #[.int .i64 0, .int .i64 0]) (by simp [results, Tryz.results13, go_sem, g0, g1]) rfl ⟨?_, hFB⟩
              rw [unhide HX]
            · have h1 : L3 = 1 := by have := (unhide HPARTS).1.2.2; rw [unhide HL3] at this; omega
              subst h1
              have hml : 0 < m.main.length := by rw [unhide HL3]; exact Nat.one_pos
              have hpe := (unhide HPARTS).2.2 _ (List.getElem_mem hml)
              rcases (unhide Q3).kept (unhide HWR) (unhide HWR).size with hq | ⟨b, off, rfl, hbl, hbn, hcs⟩
              · rw [hq] at hml; simp at hml
              obtain ⟨c0, c1, c2, c3, c4, d0, d1, d2, d3, d4, hr⟩ := hcs 0 hml
              simp only [Nat.zero_mul, Nat.add_zero] at d0 d1 d2 d3 d4
              have HCE := hide (exprS_any PN m ys (unhide HF) h lo 0 _ _ wr none 0 [] hr hpe.1 ((unhide HCA).kept (unhide HB)) (.inl rfl) (by have := hpe.2; simp; omega))
              have HBADM := hide (fun h5 => unhide HMAIN2 0 (unhide HFU) hml (fun j hj hjk => absurd hjk (Nat.not_lt_zero _)) h5)
              have HOKM : Hid (mainC (findSig m ys) (m.main[0]'hml) = 0 → R = (0, 0)) := hide (fun g => unhide HGOOD2 (unhide HFU) (fun j hj => by
                have : j = 0 := by rw [unhide HL3] at hj; omega
                subst this
                exact g))
              have hcode := (typ_code (findSig m ys) (m.main[0]'hml) []).1
              have HMC : Hid (mainC (findSig m ys) (m.main[0]'hml) = ((m.main[0]'hml).typ (findSig m ys) []).2) := hide rfl
              obtain ⟨T, hT⟩ : ∃ T, (m.main[0]'hml).typ (findSig m ys) [] = T := ⟨_, rfl⟩
              rw [hT] at HCE hcode HMC
              obtain ⟨t, c⟩ := T
              dsimp only at HCE hcode HMC
              have HBADM2 : Hid (c ≠ 0 → R = (c, (m.funs.length : Int))) := hide (fun g => by have := unhide HBADM (by rw [unhide HMC]; exact g); rw [unhide HMC] at this; exact this)
              have HOKM2 : Hid (c = 0 → R = (0, 0)) := hide (fun g => unhide HOKM (by rw [unhide HMC]; exact g))
              clear hcs hr hT HBADM HOKM HMC hpe
              go_wp2_with fail
              refine (unhide HCE).mono ?_
              rintro r w3 ⟨rfl, hb3⟩
              have HWR3 := hide ((unhide HWR).trans (hb3.mono (unhide HWR).size))
              have M13 := hide ((unhide M1).below hb3 (by omega))
              have p1 := ((unhide M0).below hb3 (by omega)).cellAt (i := 1) rfl
              clear hb3 HCE d0 d1 d2 d3 d4 m2 m1
              by_cases hc : c = 0
              · have HX := hide (unhide HOKM2 hc)
                subst hc
                have r0 := (unhide M13).cellAt (i := 0) rfl
                have r1 := (unhide M13).cellAt (i := 1) rfl
                have rf0 := (unhide M13).2 0
                have rf1 := (unhide M13).2 1
                go_wp2
                have hn := ((unhide M13).set 0 (.int .i64 0) (by simp)).set 1 (.int .i64 0) (by simp)
                have hFB := ((unhide HWR3).setCell (p := ⟨w.heap.size + 1, 0, none⟩) (show w.heap.size ≤ w.heap.size + 1 from Nat.le_succ _) (.int .i64 0)).setCell (p := ⟨w.heap.size + 1, 1, none⟩) (show w.heap.size ≤ w.heap.size + 1 from Nat.le_succ _) (.int .i64 0)
                obtain ⟨FW, hF⟩ : ∃ FW, FW = (w3.setCell ⟨w.heap.size + 1, 0, none⟩ (.int .i64 0)).setCell ⟨w.heap.size + 1, 1, none⟩ (.int .i64 0) := ⟨_, rfl⟩
                rw [← hF] at hn hFB ⊢
                have g0 := hn.cellAt (i := 0) rfl
                have g1 := hn.cellAt (i := 1) rfl
                refine bodyPost_ret (v := .agg #[.int .i64 0, .int .i64 0]) (by simp [results, Tryz.results13, go_sem, g0, g1]) rfl ⟨?_, hFB⟩
                rw [unhide HX]
              · have hcp : 0 < c := by omega
                have HX : Hid (R = (c, (L2 : Int))) := hide ((unhide HBADM2 hc).trans (by rw [unhide HL2]))
                have r0 := (unhide M13).cellAt (i := 0) rfl
                have r1 := (unhide M13).cellAt (i := 1) rfl
                have rf0 := (unhide M13).2 0
                have rf1 := (unhide M13).2 1
                go_wp2
                have hn := ((unhide M13).set 0 (.int .i64 c) (by simp)).set 1 (.int .i64 (L2 : Int)) (by simp)
                have hFB := ((unhide HWR3).setCell (p := ⟨w.heap.size + 1, 0, none⟩) (show w.heap.size ≤ w.heap.size + 1 from Nat.le_succ _) (.int .i64 c)).setCell (p := ⟨w.heap.size + 1, 1, none⟩) (show w.heap.size ≤ w.heap.size + 1 from Nat.le_succ _) (.int .i64 (L2 : Int))
                obtain ⟨FW, hF⟩ : ∃ FW, FW = (w3.setCell ⟨w.heap.size + 1, 0, none⟩ (.int .i64 c)).setCell ⟨w.heap.size + 1, 1, none⟩ (.int .i64 (L2 : Int)) := ⟨_, rfl⟩
                rw [← hF] at hn hFB ⊢
                have g0 := hn.cellAt (i := 0) rfl
                have g1 := hn.cellAt (i := 1) rfl
                refine bodyPost_ret (v := .agg #[.int .i64 c, .int .i64 (L2 : Int)]) (by simp [results, Tryz.results13, go_sem, g0, g1]) rfl ⟨?_, hFB⟩
                rw [unhide HX]
end Go.Proofs.YtgmohnbjfemebaaGreatDoor

namespace Go.Proofs.YtgmohnbjfemebaaGreatDoor
open Go.RowKit Go.PlainAid

/-- What is kept of a check while it goes on. -/
def InvM (n0 : Nat) (w0 : World) (C b : Nat) (cs : List Value) (pl : Int) (w : World) : Prop :=
  Below n0 w0 w ∧ (n0 ≤ b ∧ b < C ∧ C < w.heap.size) ∧ Blk w C (cs ++ [.map (some b), .int .i64 pl]) ∧ Rules w b
theorem InvM.below {n0 : Nat} {w0 w w' : World} {C b : Nat} {cs : List Value} {pl : Int} (h : InvM n0 w0 C b cs pl w) (hb : Below w.heap.size w w') : InvM n0 w0 C b cs pl w' := by
  obtain ⟨h1, ⟨h2, h3, h4⟩, h5, h6⟩ := h
  exact ⟨h1.trans (hb.mono (Nat.le_of_lt (Nat.lt_of_le_of_lt h2 (Nat.lt_trans h3 h4)))), ⟨h2, h3, Nat.lt_of_lt_of_le h4 hb.size⟩, h5.below hb h4, h6.kept hb⟩
theorem InvM.place {n0 : Nat} {w0 w : World} {C b : Nat} {x0 x1 x2 x3 : Value} {pl : Int} (h : InvM n0 w0 C b [x0, x1, x2, x3] pl w) (p : Int) : InvM n0 w0 C b [x0, x1, x2, x3] p (w.setCell ⟨C, 5, none⟩ (.int .i64 p)) := by
  obtain ⟨h1, ⟨h2, h3, h4⟩, h5, hb0, n, es, clock, h7, rest⟩ := h
  have hs : (w.setCell ⟨C, 5, none⟩ (.int .i64 p)).heap.size = w.heap.size := by simp [World.setCell]
  refine ⟨h1.setCell (p := ⟨C, 5, none⟩) (by show n0 ≤ C; omega) _, ⟨h2, h3, by rw [hs]; exact h4⟩, h5.set 5 (.int .i64 p) (by simp), by rw [hs]; exact hb0, n, es, clock, ?_, rest⟩
  rw [Below.heap_setCell _ _ _ _ (by show b ≠ C; omega)]
  exact h7
theorem InvM.ctx {w0 w : World} {C b lo h lo2 : Nat} {s1 s2 s3 : Value} {a : Option Addr} {cap : Nat} {ys : List TY} {pl : Int} {m : TM} (hi : InvM w0.heap.size w0 C b [s1, s2, s3, .slice a ys.length cap] pl w) (hM : IsMod w0 lo w0.heap.size h (.agg #[s1, s2, s3]) m) (hY : IsFaces (IsFace w0 lo2 w0.heap.size) w0 lo2 w0.heap.size a ys) : CtxI w C m ys pl := by
  obtain ⟨h1, ⟨h2, h3, h4⟩, h5, h6⟩ := hi
  exact ⟨⟨h4, _, _, _, a, cap, lo, h, lo2, h5.cellAt (i := 0) rfl, h5.cellAt (i := 1) rfl, h5.cellAt (i := 2) rfl, h5.cellAt (i := 3) rfl, IsMod.kept h h1 h1.size _ _ hM, hY.kept h1 h1.size⟩, h5.cellAt (i := 5) rfl, b, h5.cellAt (i := 4) rfl, h6⟩
theorem place_has (ys : List TY) (u : ByteArray) : decide (placeY ys u < 0) = !(hasY ys u) := by
  unfold placeY hasY
  cases h : ys.findIdx? (isMod u) with
  | none =>
    have : ys.any (isMod u) = false := by
      rw [List.any_eq_false]
      intro x hx
      have := List.findIdx?_eq_none_iff.1 h x hx
      simpa using this
    rw [this]
    rfl
  | some k =>
    have : ys.any (isMod u) = true := by
      obtain ⟨hk, he, _⟩ := List.findIdx?_eq_some_iff_getElem.1 h
      exact List.any_eq_true.2 ⟨_, List.getElem_mem hk, he⟩
    rw [this]
    simp
set_option maxHeartbeats 4000000 in
theorem checkOf_full (lo h lo2 : Nat) (s1 s2 s3 : Value) (m : TM) (a : Option Addr) (cap : Nat) (ys : List TY) (w : World) (hM : IsMod w lo w.heap.size h (.agg #[s1, s2, s3]) m) (hY : IsFaces (IsFace w lo2 w.heap.size) w lo2 w.heap.size a ys) :
    Calls Tryz.prog 35 #[.agg #[s1, s2, s3], .slice a ys.length cap] w fun r w' => ∃ (C b : Nat), r = .returned (.pointer (some ⟨C, 0, none⟩)) ∧ InvM w.heap.size w C b [s1, s2, s3, .slice a ys.length cap] 0 w' := by
  have HM := hide hM
  have HY := hide hY
  obtain ⟨a1, a2, a3, k1, k2, k3, hv, hz, q1, q2, q3⟩ := hM
  simp only [Value.agg.injEq, Array.mk.injEq, List.cons.injEq, and_true] at hv
  obtain ⟨rfl, rfl, rfl⟩ := hv
  obtain ⟨L1, hL1⟩ : ∃ L1, m.uses.length = L1 := ⟨_, rfl⟩
  obtain ⟨L2, hL2⟩ : ∃ L2, m.funs.length = L2 := ⟨_, rfl⟩
  obtain ⟨L3, hL3⟩ : ∃ L3, m.main.length = L3 := ⟨_, rfl⟩
  rw [hL1, hL2, hL3] at HM ⊢
  clear q1 q2 q3 hz hL1 hL2 hL3 hY
  obtain ⟨W, hW⟩ : ∃ W, W = w.alloc (.cells #[.slice a1 L1 k1, .slice a2 L2 k2, .slice a3 L3 k3] 27) := ⟨_, rfl⟩
  have hBW : Below w.heap.size w W := by rw [hW]; exact (Below.refl _ _).alloc (Nat.le_refl _) _
  have hWS : W.heap.size = w.heap.size + 1 := by rw [hW]; simp
  have r0 : (Instr.makeMap 147 none).run Tryz.prog W = .ok (.map (some W.heap.size)) (W.alloc (.map #[] 0)) := run_makeMap _ _
  have o0 : (W.alloc (.map #[] 0)).ownsMap Tryz.prog 3 RHf W.heap.size 0 D0 := World.ownsMap_made W Tryz.prog 3 RHf
  have b0 : Below w.heap.size w (W.alloc (.map #[] 0)) := hBW.alloc hBW.size _
  obtain ⟨w1, r1, o1, c1⟩ := store_one (i := 1) 70 o0 (by omega) (by decide) w.heap.size b0.size (by rw [hWS]; omega)
  have b1 := b0.trans c1
  obtain ⟨w2, r2, o2, c2⟩ := store_one (i := 2) 71 o1 (by omega) (by decide) w.heap.size b1.size (by rw [hWS]; omega)
  have b2 := b1.trans c2
  obtain ⟨w3, r3, o3, c3⟩ := store_one (i := 3) 72 o2 (by omega) (by decide) w.heap.size b2.size (by rw [hWS]; omega)
  have b3 := b2.trans c3
  obtain ⟨w4, r4, o4, c4⟩ := store_one (i := 4) 73 o3 (by omega) (by decide) w.heap.size b3.size (by rw [hWS]; omega)
  have b4 := b3.trans c4
  obtain ⟨w5, r5, o5, c5⟩ := store_one (i := 5) 74 o4 (by omega) (by decide) w.heap.size b4.size (by rw [hWS]; omega)
  have b5 := b4.trans c5
  obtain ⟨w6, r6, o6, c6⟩ := store_one (i := 6) 75 o5 (by omega) (by decide) w.heap.size b5.size (by rw [hWS]; omega)
  have b6 := b5.trans c6
  obtain ⟨w7, r7, o7, c7⟩ := store_one (i := 7) 76 o6 (by omega) (by decide) w.heap.size b6.size (by rw [hWS]; omega)
  have b7 := b6.trans c7
  obtain ⟨w8, r8, o8, c8⟩ := store_one (i := 8) 77 o7 (by omega) (by decide) w.heap.size b7.size (by rw [hWS]; omega)
  have b8 := b7.trans c8
  have HO : Hid (w8.ownsMap Tryz.prog 3 RHf W.heap.size 8 D8) := hide o8
  have HB8 := hide b8
  have HWS := hide hWS
  have hs8 : W.heap.size < w8.heap.size := by
    obtain ⟨es, cl, hh, _⟩ := o8
    rcases Nat.lt_or_ge W.heap.size w8.heap.size with g | g
    · exact g
    · rw [Array.getElem?_eq_none g] at hh; cases hh
  clear o0 o1 o2 o3 o4 o5 o6 o7 o8 b0 b1 b2 b3 b4 b5 b6 b7 b8 c1 c2 c3 c4 c5 c6 c7 c8 hBW
  have s1 : (Instr.mapUpdate 147 (.map (some W.heap.size)) (.int .i64 1) (FV 70)).run Tryz.prog (W.alloc (.map #[] 0)) = .ok () w1 := r1
  have s2 : (Instr.mapUpdate 147 (.map (some W.heap.size)) (.int .i64 2) (FV 71)).run Tryz.prog w1 = .ok () w2 := r2
  have s3 : (Instr.mapUpdate 147 (.map (some W.heap.size)) (.int .i64 3) (FV 72)).run Tryz.prog w2 = .ok () w3 := r3
  have s4 : (Instr.mapUpdate 147 (.map (some W.heap.size)) (.int .i64 4) (FV 73)).run Tryz.prog w3 = .ok () w4 := r4
  have s5 : (Instr.mapUpdate 147 (.map (some W.heap.size)) (.int .i64 5) (FV 74)).run Tryz.prog w4 = .ok () w5 := r5
  have s6 : (Instr.mapUpdate 147 (.map (some W.heap.size)) (.int .i64 6) (FV 75)).run Tryz.prog w5 = .ok () w6 := r6
  have s7 : (Instr.mapUpdate 147 (.map (some W.heap.size)) (.int .i64 7) (FV 76)).run Tryz.prog w6 = .ok () w7 := r7
  have s8 : (Instr.mapUpdate 147 (.map (some W.heap.size)) (.int .i64 8) (FV 77)).run Tryz.prog w7 = .ok () w8 := r8
  clear r1 r2 r3 r4 r5 r6 r7 r8
  rw [hWS] at r0 s1 s2 s3 s4 s5 s6 s7 s8
  rw [hW] at r0 s1
  go_enter Tryz.func35, Tryz.ntmps35
  go_wp2
  go_ret
  have hBN : Below w.heap.size w (w8.alloc (.cells #[.slice a1 L1 k1, .slice a2 L2 k2, .slice a3 L3 k3, .slice a ys.length cap, .map (some (w.heap.size + 1)), .int .i64 0] 149)) := (unhide HB8).alloc (unhide HB8).size _
  refine ⟨w8.heap.size, w.heap.size + 1, rfl, hBN, ⟨Nat.le_succ _, by rw [← unhide HWS]; exact hs8, by simp⟩, Blk.new w8 _ _, ?_⟩
  refine Rules.kept (w := w8) ⟨by rw [← unhide HWS]; exact hs8, 8, by rw [← unhide HWS]; exact unhide HO⟩ ((Below.refl _ _).alloc (Nat.le_refl _) _)
end Go.Proofs.YtgmohnbjfemebaaGreatDoor

namespace Go.Proofs.YtgmohnbjfemebaaGreatDoor
open Go.RowKit Go.PlainAid

/-- What mod answers: nothing, or the fault as an error. -/
def MErr (w : World) (v : Value) (R : Int × Int) : Prop := (R.1 = 0 ∧ v = .nilIface) ∨ (R.1 ≠ 0 ∧ IsErr w w.heap.size v R.1 R.2)
theorem one_int {W : World} {B : Nat} {x : Int} (hc : W.cell? ⟨B, 0, none⟩ = some (.int .i64 x)) (hB : B < W.heap.size) : IsInts W 0 W.heap.size (some ⟨B, 0, none⟩) [x] :=
  .inr ⟨B, 0, rfl, Nat.zero_le _, hB, fun j hj => by
    match j, hj with
    | 0, _ => exact hc⟩

set_option maxRecDepth 100000 in
set_option maxHeartbeats 2500000 in
theorem modI_any (lo h lo2 : Nat) (a1 a2 a3 : Option Addr) (L1 L2 L3 k1 k2 k3 : Nat) (m : TM) (a : Option Addr) (cap : Nat) (ys : List TY) (w0 : World) (hM : IsMod w0 lo w0.heap.size h (.agg #[.slice a1 L1 k1, .slice a2 L2 k2, .slice a3 L3 k3]) m) (hY : IsFaces (IsFace w0 lo2 w0.heap.size) w0 lo2 w0.heap.size a ys) (hF : Fits m ys) (C b : Nat) (w : World) (hI : InvM w0.heap.size w0 C b [.slice a1 L1 k1, .slice a2 L2 k2, .slice a3 L3 k3, .slice a ys.length cap] 0 w) :
    Calls Tryz.prog 42 #[.pointer (some ⟨C, 0, none⟩)] w fun r w' => ∃ v : Value, r = .returned v ∧ MErr w' v (modT m ys) ∧ Below w0.heap.size w0 w' := by
  have HOK := hide (fun (W' : World) (hb : Below w0.heap.size w0 W') => TreeOkI_any lo h (.agg #[.slice a1 L1 k1, .slice a2 L2 k2, .slice a3 L3 k3]) m W' (IsMod.kept h hb hb.size _ _ hM))
  have HFP := hide (fun (W' : World) (u : ByteArray) (hb : Below w0.heap.size w0 W') => facePlace_any lo2 a cap ys u W' (hY.kept hb hb.size) hF.2.1)
  have HCTX := hide (fun (pl : Int) (W' : World) (hi : InvM w0.heap.size w0 C b [.slice a1 L1 k1, .slice a2 L2 k2, .slice a3 L3 k3, .slice a ys.length cap] pl W') => hi.ctx hM hY)
  have HF := hide hF
  have HBADT := hide (modT_bad (m := m) (ys := ys))
  have HUSET := hide (fun (k : Nat) h1 hk h2 h3 => modT_use (m := m) (ys := ys) (k := k) h1 hk h2 h3)
  have HFUNT := hide (fun (k : Nat) h1 h2 hk h3 h4 => modT_fun (m := m) (ys := ys) (k := k) h1 h2 hk h3 h4)
  have HMAINT := hide (fun (k : Nat) h1 h2 h3 hk h4 h5 => modT_main (m := m) (ys := ys) (k := k) h1 h2 h3 hk h4 h5)
  have HGOODT := hide (modT_good (m := m) (ys := ys))
  obtain ⟨R, hR⟩ : ∃ R, modT m ys = R := ⟨_, rfl⟩
  rw [hR] at HBADT HUSET HFUNT HMAINT HGOODT ⊢
  clear hR
  obtain ⟨b1, b2, b3, j1, j2, j3, hv, hz, q1, q2, q3⟩ := hM
  simp only [Value.agg.injEq, Array.mk.injEq, List.cons.injEq, and_true, Value.slice.injEq] at hv
  obtain ⟨⟨rfl, hL1, rfl⟩, ⟨rfl, hL2, rfl⟩, ⟨rfl, hL3, rfl⟩⟩ := hv
  have hz1 := hz.1
  have hz2 := hz.2.1
  have hz3 := hz.2.2.1
  unfold maxLen at hz1 hz2 hz3
  rw [← hL1] at hz1
  rw [← hL2] at hz2
  rw [← hL3] at hz3
  have Q1 := hide q1
  have Q2 := hide q2
  have Q3 := hide q3
  have HL1 := hide hL1
  have HL2 := hide hL2
  have HL3 := hide hL3
  have HI := hide hI
  have e0 := hI.2.2.1.cellAt (i := 0) rfl
  have e1 := hI.2.2.1.cellAt (i := 1) rfl
  have e2 := hI.2.2.1.cellAt (i := 2) rfl
  clear q1 q2 q3 hz hY hF hL1 hL2 hL3 hI
  go_enter Tryz.func42, Tryz.ntmps42
  go_wp2_with fail
  refine (unhide HOK _ (unhide HI).1).mono ?_
  rintro r w2 ⟨rfl, hb2⟩
  have HI2 := hide ((unhide HI).below hb2)
  clear hb2 HOK HI e0 e1 e2
  cases hok : m.okB with
  | false =>
    have HX := hide (unhide HBADT hok)
    have q5 := (unhide HI2).2.2.1.cellAt (i := 5) rfl
    clear HBADT HUSET HFUNT HMAINT HGOODT hok
    go_wp2_with fail
    refine (fault_any C 5 0 _ q5).mono ?_
    rintro r w3 ⟨v, rfl, he, hb3⟩
    have HE := hide he
    have HI3 := hide ((unhide HI2).below hb3)
    clear he hb3 q5
    go_wp2
    go_ret
    refine ⟨_, rfl, ?_, (unhide HI3).1⟩
    rw [unhide HX]
    exact .inr ⟨by simp, unhide HE⟩
  | true =>
    have HPARTS := hide (ok_parts hok)
    have HUSET' := hide (fun k => unhide HUSET k hok)
    have HFUNT' := hide (fun k => unhide HFUNT k hok)
    have HMAINT' := hide (fun k => unhide HMAINT k hok)
    have HGOODT' := hide (unhide HGOODT hok)
    have e0 := (unhide HI2).2.2.1.cellAt (i := 0) rfl
    clear HBADT HUSET HFUNT HMAINT HGOODT hok
    go_wp2
    clear e0
    go_loopw [3, 4, 27] (fun _ _ i wr => ∃ (k : Nat) (pl : Int), k ≤ L1 ∧ i = .int .i64 k ∧ Hid (∀ j (hj : j < m.uses.length), j < k → hasY ys m.uses[j] = true) ∧ Hid (InvM w0.heap.size w0 C b [.slice a1 L1 k1, .slice a2 L2 k2, .slice a3 L3 k3, .slice a ys.length cap] pl wr)) (fun _ _ i _ => L1 - (intOf i).toNat)
    case atStart => exact ⟨0, 0, Nat.zero_le _, rfl, hide (fun j _ hj => absurd hj (Nat.not_lt_zero _)), HI2⟩
    case round =>
      obtain ⟨k, pl, hk, rfl, HN, HIR⟩ := hrel
      by_cases hp : k < L1
      · have hp2 : k < m.uses.length := by rw [← unhide HL1]; exact hp
        rcases (unhide Q1).kept (unhide HIR).1 (unhide HIR).1.size with hq | ⟨bb, off, rfl, hbl, hbn, hcs⟩
        · rw [hq] at hp2; simp at hp2
        have hck := hcs k hp2
        have HBADU := hide (fun h3 => unhide HUSET' k hp2 (fun j hj hjk => unhide HN j hj hjk) h3)
        have HNX := hide (fun (h3 : hasY ys (m.uses[k]'hp2) = true) (j : Nat) (hj : j < m.uses.length) (hjk : j < k + 1) => show hasY ys m.uses[j] = true from by
          by_cases e : j = k
          · subst e; exact h3
          · exact unhide HN j hj (by omega))
        obtain ⟨u, hu⟩ : ∃ u, m.uses[k]'hp2 = u := ⟨_, rfl⟩
        rw [hu] at hck HBADU HNX
        have hIS := (unhide HIR).place (k : Int)
        have HIS := hide hIS
        have HCH := hide (unhide HFP _ u hIS.1)
        have hph := place_has ys u
        obtain ⟨pv, hpv⟩ : ∃ pv, placeY ys u = pv := ⟨_, rfl⟩
        rw [hpv] at HCH hph
        obtain ⟨hy, hhy⟩ : ∃ hy, hasY ys u = hy := ⟨_, rfl⟩
        rw [hhy] at hph HBADU HNX
        have s5 := (unhide HIR).2.2.1.cellAt (i := 5) rfl
        have f5 := (unhide HIR).2.2.1.2 5
        have s3 := hIS.2.2.1.cellAt (i := 3) rfl
        clear hcs hu hhy hpv hIS
        go_wp2_with fail
        refine (unhide HCH).mono ?_
        rintro r w3 ⟨rfl, hb3⟩
        have HI3 := hide ((unhide HIS).below hb3)
        clear hb3 HCH s5 f5 s3 hck
        cases hy with
        | false =>
          have hlt : pv < 0 := of_decide_eq_true hph
          have HX := hide (unhide HBADU rfl)
          have q5 := (unhide HI3).2.2.1.cellAt (i := 5) rfl
          clear HBADU HNX hph
          go_wp2_with fail
          refine (fault_any C 1 (k : Int) _ q5).mono ?_
          rintro r w4 ⟨v, rfl, he, hb4⟩
          have HE := hide he
          have HI4 := hide ((unhide HI3).below hb4)
          clear he hb4 q5
          go_wp2
          go_ret
          refine ⟨_, rfl, ?_, (unhide HI4).1⟩
          rw [unhide HX]
          exact .inr ⟨by simp, unhide HE⟩
        | true =>
          have hlt : ¬ pv < 0 := of_decide_eq_false hph
          have HE := hide (unhide HNX rfl)
          clear HBADU HNX hph
          go_wp2
          go_roundw
          case rel => exact ⟨k + 1, (k : Int), by omega, by go_num, HE, HI3⟩
          case measure => simp [intOf]; omega
      · have HUS : Hid (∀ j (hj : j < m.uses.length), hasY ys m.uses[j] = true) := hide (fun j hj => unhide HN j hj (by have := unhide HL1; omega))
        have HFUN2 := hide (fun k hk h3 h4 => unhide HFUNT' k (unhide HUS) hk h3 h4)
        have HMAIN2 := hide (fun k h3 hk h4 h5 => unhide HMAINT' k (unhide HUS) h3 hk h4 h5)
        have HGOOD2 := hide (unhide HGOODT' (unhide HUS))
        have e1 := (unhide HIR).2.2.1.cellAt (i := 1) rfl
        clear HUSET' HFUNT' HMAINT' HGOODT' HN HFP
        go_wp2
        clear e1
        go_loopw [5, 6, 7, 8, 52] (fun _ _ _ _ i wq => ∃ (k : Nat) (pl : Int), k ≤ L2 ∧ i = .int .i64 k ∧ Hid (∀ j (hj : j < m.funs.length), j < k → funC (findSig m ys) m.funs[j] = 0) ∧ Hid (InvM w0.heap.size w0 C b [.slice a1 L1 k1, .slice a2 L2 k2, .slice a3 L3 k3, .slice a ys.length cap] pl wq)) (fun _ _ _ _ i _ => L2 - (intOf i).toNat)
        case atStart => exact ⟨0, pl, Nat.zero_le _, rfl, hide (fun j _ hj => absurd hj (Nat.not_lt_zero _)), HIR⟩
        case round =>
          clear HIR
          obtain ⟨k, pl, hk, rfl, HN, HIR⟩ := hrel
          by_cases hp : k < L2
          · have hp2 : k < m.funs.length := by rw [← unhide HL2]; exact hp
            rcases unhide Q2 with hq | ⟨bb, off, rfl, hbl, hbn, hcs⟩
            · rw [hq] at hp2; simp at hp2
            obtain ⟨c0, c1, c2, c3, c4, c5, c6, c7, c8, d0, d1, d2, d3, d4, d5, d6, d7, d8, hr⟩ := hcs k hp2
            have hpt := (unhide HPARTS).2.1 _ (List.getElem_mem hp2)
            have HBADF := hide (fun h4 => unhide HFUN2 k hp2 (fun j hj hjk => unhide HN j hj hjk) h4)
            have HNX := hide (fun (h3 : funC (findSig m ys) (m.funs[k]'hp2) = 0) (j : Nat) (hj : j < m.funs.length) (hjk : j < k + 1) => show funC (findSig m ys) m.funs[j] = 0 from by
              by_cases e : j = k
              · subst e; exact h3
              · exact unhide HN j hj (by omega))
            have HFC : Hid (funC (findSig m ys) (m.funs[k]'hp2) = if ((m.funs[k]'hp2).body.typ (findSig m ys) (m.funs[k]'hp2).args).2 = 0 ∧ ((m.funs[k]'hp2).body.typ (findSig m ys) (m.funs[k]'hp2).args).1 ≠ (m.funs[k]'hp2).type then 4 else ((m.funs[k]'hp2).body.typ (findSig m ys) (m.funs[k]'hp2).args).2) := hide rfl
            obtain ⟨f, hf⟩ : ∃ f, m.funs[k]'hp2 = f := ⟨_, rfl⟩
            rw [hf] at hr hpt HBADF HNX HFC
            obtain ⟨aa, ca, u0, u1, u2, u3, u4, hvv, hzf, ha, hE⟩ := hr
            simp only [Value.agg.injEq, Array.mk.injEq, List.cons.injEq, and_true] at hvv
            obtain ⟨rfl, rfl, rfl, rfl, rfl, rfl, rfl, rfl, rfl⟩ := hvv
            obtain ⟨z0, z1, z2, z3, z4, z5, z6, rfl, rfl, rfl, rfl, rfl⟩ := hE.form5
            have HVV := hide (fun (W' : World) (hb : Below w0.heap.size w0 W') => typeVars_any lo aa ca f.args W' (ha.kept hb hb.size) hzf.2)
            have HCE := hide (fun (W' : World) (pv : Value) (hi : InvM w0.heap.size w0 C b [.slice a1 L1 k1, .slice (some ⟨bb, off, none⟩) L2 k2, .slice a3 L3 k3, .slice a ys.length cap] (k : Int) W') (hpv : IsV W' W'.heap.size pv f.args.reverse) => Calls.mono (exprI_any C m ys (k : Int) (unhide HF) h lo _ f.body W' pv f.args (IsE.kept hi.1 hi.1.size _ _ _ hE) hpt.2.1 (unhide HCTX _ _ hi) hpv) (fun r w' hh => show ∃ (x : Int) (y : Value), r = .returned (.tuple #[.int .i64 x, y]) ∧ IsRes w' w'.heap.size (.tuple #[.int .i64 x, y]) (f.body.typ (findSig m ys) f.args) (k : Int) ∧ Below W'.heap.size W' w' from by
              obtain ⟨v, he, hr, hb'⟩ := hh
              obtain ⟨x, y, rfl⟩ := hr.form
              exact ⟨x, y, he, hr, hb'⟩))
            have hB0 := (unhide HIR).1
            have d0' := (hB0.cell (p := ⟨bb, off + k * 9, none⟩) hbn).trans d0
            have d1' := (hB0.cell (p := ⟨bb, off + k * 9 + 1, none⟩) hbn).trans d1
            have d2' := (hB0.cell (p := ⟨bb, off + k * 9 + 2, none⟩) hbn).trans d2
            have d3' := (hB0.cell (p := ⟨bb, off + k * 9 + 3, none⟩) hbn).trans d3
            have d4' := (hB0.cell (p := ⟨bb, off + k * 9 + 4, none⟩) hbn).trans d4
            have d5' := (hB0.cell (p := ⟨bb, off + k * 9 + 5, none⟩) hbn).trans d5
            have d6' := (hB0.cell (p := ⟨bb, off + k * 9 + 6, none⟩) hbn).trans d6
            have d7' := (hB0.cell (p := ⟨bb, off + k * 9 + 7, none⟩) hbn).trans d7
            have d8' := (hB0.cell (p := ⟨bb, off + k * 9 + 8, none⟩) hbn).trans d8
            obtain ⟨T, hT⟩ : ∃ T, f.body.typ (findSig m ys) f.args = T := ⟨_, rfl⟩
            rw [hT] at HCE HFC
            obtain ⟨t, c⟩ := T
            dsimp only at HFC
            obtain ⟨fnm, hfnm⟩ : ∃ fnm, f.name = fnm := ⟨_, rfl⟩
            obtain ⟨fpb, hfpb⟩ : ∃ fpb, f.pub = fpb := ⟨_, rfl⟩
            obtain ⟨AL, hAL⟩ : ∃ AL, f.args.length = AL := ⟨_, rfl⟩
            obtain ⟨ty, hty⟩ : ∃ ty, f.type = ty := ⟨_, rfl⟩
            rw [hfnm] at d0'
            rw [hfpb] at d1'
            rw [hAL] at d2' HVV
            rw [hty] at d3' HFC
            obtain ⟨X, hX⟩ : ∃ X, X = wr.alloc (.cells #[.string fnm, .bool fpb, .slice aa AL ca, .int .i64 ty, .int .i64 z0, .int .i64 z1, .string z2, .string z3, .slice z4 z5 z6] 108) := ⟨_, rfl⟩
            have hbX : Below wr.heap.size wr X := by rw [hX]; exact (Below.refl _ _).alloc (Nat.le_refl _) _
            have hIX := (unhide HIR).below hbX
            have hCw : C < wr.heap.size := (unhide HIR).2.1.2.2
            have x5 := hIX.2.2.1.cellAt (i := 5) rfl
            have xf := hIX.2.2.1.2 5
            obtain ⟨P1, hP1⟩ : ∃ P1, P1 = wr.setCell ⟨C, 5, none⟩ (.int .i64 (k : Int)) := ⟨_, rfl⟩
            have hPS : P1.heap.size = wr.heap.size := by rw [hP1]; simp [World.setCell]
            have hIP := (unhide HIR).place (k : Int)
            rw [← hP1] at hIP
            obtain ⟨SW, hSW⟩ : ∃ SW, SW = P1.alloc (.cells #[.string fnm, .bool fpb, .slice aa AL ca, .int .i64 ty, .int .i64 z0, .int .i64 z1, .string z2, .string z3, .slice z4 z5 z6] 108) := ⟨_, rfl⟩
            have hbS : Below P1.heap.size P1 SW := by rw [hSW]; exact (Below.refl _ _).alloc (Nat.le_refl _) _
            have HIS := hide (hIP.below hbS)
            have hSS : SW.heap.size = wr.heap.size + 1 := by rw [hSW, alloc_size, hPS]
            have NS : Blk SW wr.heap.size [.string fnm, .bool fpb, .slice aa AL ca, .int .i64 ty, .int .i64 z0, .int .i64 z1, .string z2, .string z3, .slice z4 z5 z6] := by rw [hSW, ← hPS]; exact Blk.new P1 _ _
            have HNS := hide NS
            have hFN : wr.heap.size < SW.heap.size := by rw [hSS]; exact Nat.lt_succ_self _
            have HSK := hide (fun (w' : World) (hb : Below SW.heap.size SW w') => (⟨(NS.below hb hFN).cellAt (i := 2) rfl, (NS.below hb hFN).cellAt (i := 4) rfl, (NS.below hb hFN).cellAt (i := 5) rfl, (NS.below hb hFN).cellAt (i := 6) rfl, (NS.below hb hFN).cellAt (i := 7) rfl, (NS.below hb hFN).cellAt (i := 8) rfl⟩ : w'.cell? ⟨wr.heap.size, 2, none⟩ = some (.slice aa AL ca) ∧ w'.cell? ⟨wr.heap.size, 4, none⟩ = some (.int .i64 z0) ∧ w'.cell? ⟨wr.heap.size, 5, none⟩ = some (.int .i64 z1) ∧ w'.cell? ⟨wr.heap.size, 6, none⟩ = some (.string z2) ∧ w'.cell? ⟨wr.heap.size, 7, none⟩ = some (.string z3) ∧ w'.cell? ⟨wr.heap.size, 8, none⟩ = some (.slice z4 z5 z6)))
            rw [hX] at x5 xf
            rw [hP1] at hSW
            clear hcs hf hzf ha hE hT hfnm hfpb hAL hty hbX hIX hIP hbS NS hX hP1 hPS d0 d1 d2 d3 d4 d5 d6 d7 d8 hpt hB0
            go_wp2
            rw [← hSW]
            clear hSW x5 xf d0' d1' d2' d3' d4' d5' d6' d7' d8'
            go_region_held3 (fun w' => w'.cell? ⟨wr.heap.size, 2, none⟩ = some (.slice aa AL ca) ∧ w'.cell? ⟨wr.heap.size, 4, none⟩ = some (.int .i64 z0) ∧ w'.cell? ⟨wr.heap.size, 5, none⟩ = some (.int .i64 z1) ∧ w'.cell? ⟨wr.heap.size, 6, none⟩ = some (.string z2) ∧ w'.cell? ⟨wr.heap.size, 7, none⟩ = some (.string z3) ∧ w'.cell? ⟨wr.heap.size, 8, none⟩ = some (.slice z4 z5 z6))
              (exact unhide HSK _ (by first | with_reducible exact k5 | with_reducible exact k4 | with_reducible exact Below.refl _ _ | with_reducible exact (Below.refl _ _).drew))
              (first
                | (go_at_call 37; refine (unhide HVV _ (unhide HIS).1.drew).mono ?_; rintro r w4 ⟨p4, rfl, hV4, hb4⟩; obtain ⟨pa4, rfl⟩ := hV4.form; have k4 : Below SW.heap.size SW w4 := (Below.refl _ SW).drew.trans hb4)
                | (go_at_call 36; refine (unhide HCE w4 _ ((unhide HIS).below k4) hV4).mono ?_; rintro r w5 ⟨x5, y5, rfl, hr5, hb5⟩; have k5 : Below SW.heap.size SW w5 := k4.trans (hb5.mono k4.size)))
            have HI5 := hide ((unhide HIS).below k5)
            have HN5 := hide ((unhide HNS).below k5 hFN)
            have hFN5 : wr.heap.size < w5.heap.size := Nat.lt_of_lt_of_le hFN k5.size
            have hr6 := hr5
            clear k5 k4 hb5 hb4 hV4 hr5 HSK HIS HNS HVV HCE hFN hSS
            rcases hr6 with ⟨hc, hv'⟩ | ⟨hc, ee, hv', hee⟩
            · have hc' : c = 0 := hc
              have hv2 : (.tuple #[.int .i64 x5, y5] : Value) = .tuple #[.int .i64 t, .nilIface] := hv'
              simp only [Value.tuple.injEq, Array.mk.injEq, List.cons.injEq, Value.int.injEq, true_and, and_true] at hv2
              obtain ⟨rfl, rfl⟩ := hv2
              subst hc'
              have n3 := (unhide HN5).cellAt (i := 3) rfl
              have n3' : ∀ o : Obj, (w5.alloc o).cell? ⟨wr.heap.size, 3, none⟩ = some (.int .i64 ty) := fun o => ((unhide HN5).old o hFN5).cellAt (i := 3) rfl
              have n3'' : ∀ o o' : Obj, ((w5.alloc o).alloc o').cell? ⟨wr.heap.size, 3, none⟩ = some (.int .i64 ty) := fun o o' => (((unhide HN5).old o hFN5).old o' (by simp; omega)).cellAt (i := 3) rfl
              have hbY : Below w5.heap.size w5 ((w5.alloc (.cells #[.int .i64 x5] 3)).alloc (.cells #[.int .i64 ty] 3)) := ((Below.refl _ _).alloc (Nat.le_refl _) _).alloc (by simp) _
              have hIY := (unhide HI5).below hbY
              have HIY := hide hIY
              have i1 : IsInts ((w5.alloc (.cells #[.int .i64 x5] 3)).alloc (.cells #[.int .i64 ty] 3)) 0 ((w5.alloc (.cells #[.int .i64 x5] 3)).alloc (.cells #[.int .i64 ty] 3)).heap.size (some ⟨w5.heap.size, 0, none⟩) [x5] := one_int (((Blk.new w5 [.int .i64 x5] 3).old _ (by simp)).cellAt (i := 0) rfl) (by simp; omega)
              have i2 : IsInts ((w5.alloc (.cells #[.int .i64 x5] 3)).alloc (.cells #[.int .i64 ty] 3)) 0 ((w5.alloc (.cells #[.int .i64 x5] 3)).alloc (.cells #[.int .i64 ty] 3)).heap.size (some ⟨w5.heap.size + 1, 0, none⟩) [ty] := one_int (by have := alloc_cell (w5.alloc (.cells #[.int .i64 x5] 3)) #[.int .i64 ty] 3 0; rw [alloc_size] at this; exact this) (by simp)
              have HFIT := hide (fit_any C 0 0 (some ⟨w5.heap.size, 0, none⟩) (some ⟨w5.heap.size + 1, 0, none⟩) 1 1 [x5] [ty] ty (k : Int) _ hIY.2.1.2.2 (hIY.2.2.1.cellAt (i := 5) rfl) i1 i2 (by simp))
              clear hc hv' hbY hIY i1 i2
              go_wp2_with fail
              refine (unhide HFIT).mono ?_
              rintro r w6 ⟨v6, rfl, hr6, hb6⟩
              have HI6 := hide ((unhide HIY).below hb6)
              clear hb6 n3 n3' n3'' HFIT HIY
              by_cases ht : x5 = ty
              · subst ht
                have hft : fitT [x5] [x5] x5 = (x5, 0) := by simp [fitT, eqI]
                rw [hft] at hr6
                rcases hr6 with ⟨_, hv6⟩ | ⟨hc6, _⟩
                · have hv7 : v6 = .tuple #[.int .i64 x5, .nilIface] := hv6
                  subst hv7
                  have HE := hide (unhide HNX ((unhide HFC).trans (if_neg (by simp))))
                  clear hv6 hft HBADF HNX HFC
                  go_wp2
                  go_roundw
                  case rel => exact ⟨k + 1, (k : Int), by omega, by go_num, HE, HI6⟩
                  case measure => simp [intOf]; omega
                · exact absurd rfl hc6
              · have hft : fitT [x5] [ty] ty = (0, 4) := by simp [fitT, eqI, ht]
                rw [hft] at hr6
                rcases hr6 with ⟨hc6, _⟩ | ⟨_, ee, hv6, hee⟩
                · exact absurd hc6 (by simp)
                · have hv7 : v6 = .tuple #[.int .i64 0, ee] := hv6
                  subst hv7
                  have h4 : funC (findSig m ys) f = 4 := (unhide HFC).trans (if_pos (by simp [ht]))
                  have HX : Hid (R = (4, (k : Int))) := hide (by have := unhide HBADF (by rw [h4]; simp); rw [h4] at this; exact this)
                  have HEE := hide hee
                  obtain ⟨eb, rfl, _, _, _⟩ := hee
                  clear hv6 hft HBADF HNX HFC h4
                  go_wp2
                  go_ret
                  refine ⟨_, rfl, ?_, (unhide HI6).1⟩
                  rw [unhide HX]
                  exact .inr ⟨by simp, unhide HEE⟩
            · have hc' : c ≠ 0 := hc
              have hv2 : (.tuple #[.int .i64 x5, y5] : Value) = .tuple #[.int .i64 0, ee] := hv'
              simp only [Value.tuple.injEq, Array.mk.injEq, List.cons.injEq, Value.int.injEq, true_and, and_true] at hv2
              obtain ⟨rfl, rfl⟩ := hv2
              have h4 : funC (findSig m ys) f = c := (unhide HFC).trans (if_neg (fun g => hc' g.1))
              have HX : Hid (R = (c, (k : Int))) := hide (by have := unhide HBADF (by rw [h4]; exact hc'); rw [h4] at this; exact this)
              have HEE := hide hee
              obtain ⟨eb, rfl, _, _, _⟩ := hee
              clear hc hv' HBADF HNX HFC h4
              go_wp2
              go_ret
              refine ⟨_, rfl, ?_, (unhide HI5).1⟩
              rw [unhide HX]
              exact .inr ⟨hc', unhide HEE⟩
          · have HFU : Hid (∀ j (hj : j < m.funs.length), funC (findSig m ys) m.funs[j] = 0) := hide (fun j hj => unhide HN j hj (by have := unhide HL2; omega))
            have hIS := (unhide HIR).place (L2 : Int)
            have HIS := hide hIS
            have e1 := (unhide HIR).2.2.1.cellAt (i := 1) rfl
            have s5 := (unhide HIR).2.2.1.cellAt (i := 5) rfl
            have f5 := (unhide HIR).2.2.1.2 5
            have s2 := hIS.2.2.1.cellAt (i := 2) rfl
            clear hIS HFUN2 HN
            go_wp2
            clear e1 s5 f5 s2
            go_loopw [10, 11, 12, 104] (fun _ _ _ i wq => ∃ k : Nat, k ≤ L3 ∧ i = .int .i64 k ∧ Hid (∀ j (hj : j < m.main.length), j < k → mainC (findSig m ys) m.main[j] = 0) ∧ Hid (InvM w0.heap.size w0 C b [.slice a1 L1 k1, .slice a2 L2 k2, .slice a3 L3 k3, .slice a ys.length cap] (L2 : Int) wq)) (fun _ _ _ i _ => L3 - (intOf i).toNat)
            case atStart => exact ⟨0, Nat.zero_le _, rfl, hide (fun j _ hj => absurd hj (Nat.not_lt_zero _)), HIS⟩
            case round =>
              clear HIS HIR
              obtain ⟨k, hk, rfl, HN, HIR⟩ := hrel
              by_cases hp : k < L3
              · have hp2 : k < m.main.length := by rw [← unhide HL3]; exact hp
                rcases (unhide Q3).kept (unhide HIR).1 (unhide HIR).1.size with hq | ⟨bb, off, rfl, hbl, hbn, hcs⟩
                · rw [hq] at hp2; simp at hp2
                obtain ⟨c0, c1, c2, c3, c4, d0, d1, d2, d3, d4, hr⟩ := hcs k hp2
                obtain ⟨z0, z1, z2, z3, z4, z5, z6, rfl, rfl, rfl, rfl, rfl⟩ := hr.form5
                have hpe := (unhide HPARTS).2.2 _ (List.getElem_mem hp2)
                have hbX : Below wr.heap.size wr (wr.alloc (.cells #[.int .i64 z0, .int .i64 z1, .string z2, .string z3, .slice z4 z5 z6] 31)) := (Below.refl _ _).alloc (Nat.le_refl _) _
                have HIX := hide ((unhide HIR).below hbX)
                have HCE := hide (exprI_any C m ys (L2 : Int) (unhide HF) h lo _ _ _ (.pointer none) [] (IsE.kept hbX hbX.size _ _ _ hr) hpe.1 (unhide HCTX _ _ (unhide HIX)) rfl)
                have HBADM := hide (fun h5 => unhide HMAIN2 k (unhide HFU) hp2 (fun j hj hjk => unhide HN j hj hjk) h5)
                have HNX := hide (fun (h3 : mainC (findSig m ys) (m.main[k]'hp2) = 0) (j : Nat) (hj : j < m.main.length) (hjk : j < k + 1) => show mainC (findSig m ys) m.main[j] = 0 from by
                  by_cases e : j = k
                  · subst e; exact h3
                  · exact unhide HN j hj (by omega))
                have HMC : Hid (mainC (findSig m ys) (m.main[k]'hp2) = ((m.main[k]'hp2).typ (findSig m ys) []).2) := hide rfl
                obtain ⟨T, hT⟩ : ∃ T, (m.main[k]'hp2).typ (findSig m ys) [] = T := ⟨_, rfl⟩
                rw [hT] at HCE HMC
                obtain ⟨t, c⟩ := T
                dsimp only at HMC
                have HBADM2 : Hid (c ≠ 0 → R = (c, (L2 : Int))) := hide (fun g => by have := unhide HBADM (by rw [unhide HMC]; exact g); rw [unhide HMC, ← unhide HL2] at this; exact this)
                have HNX2 := hide (fun (g : c = 0) => unhide HNX ((unhide HMC).trans g))
                clear hcs hr hT HBADM HNX HMC hpe hbX
                go_wp2_with fail
                refine (unhide HCE).mono ?_
                rintro r w3 ⟨v', rfl, hres, hb3⟩
                have HI3 := hide ((unhide HIX).below hb3)
                clear hb3 HCE HIX d0 d1 d2 d3 d4
                rcases hres with ⟨hc, hv'⟩ | ⟨hc, ee, hv', hee⟩
                · have hc' : c = 0 := hc
                  have hv2 : v' = .tuple #[.int .i64 t, .nilIface] := hv'
                  have HE := hide (unhide HNX2 hc')
                  subst hc'
                  subst hv2
                  clear HBADM2 HNX2 hc hv'
                  go_wp2
                  go_roundw
                  case rel => exact ⟨k + 1, by omega, by go_num, HE, HI3⟩
                  case measure => simp [intOf]; omega
                · have hc' : c ≠ 0 := hc
                  have hv2 : v' = .tuple #[.int .i64 0, ee] := hv'
                  subst hv2
                  have HX := hide (unhide HBADM2 hc')
                  have HEE := hide hee
                  obtain ⟨eb, rfl, _, _, _⟩ := hee
                  clear HBADM2 HNX2 hc hv'
                  go_wp2
                  go_ret
                  refine ⟨_, rfl, ?_, (unhide HI3).1⟩
                  rw [unhide HX]
                  exact .inr ⟨hc', unhide HEE⟩
              · have HX := hide (unhide HGOOD2 (unhide HFU) (fun j hj => unhide HN j hj (by have := unhide HL3; omega)))
                go_wp2
                go_ret
                refine ⟨_, rfl, ?_, (unhide HIR).1⟩
                rw [unhide HX]
                exact .inl ⟨rfl, rfl⟩
end Go.Proofs.YtgmohnbjfemebaaGreatDoor

namespace Go.Proofs.YtgmohnbjfemebaaGreatDoor
open Go.RowKit Go.PlainAid

theorem firstB_ne {α : Type} {p : α → Int} : ∀ {l : List α} {i : Nat} {c : Int} {k : Nat}, firstB p l i = some (c, k) → c ≠ 0
  | [], _, _, _, h => by cases h
  | x :: t, i, c, k, h => by
    rw [firstB] at h
    split at h
    · rename_i g
      simp only [Option.some.injEq, Prod.mk.injEq] at h
      rw [← h.1]; exact g
    · exact firstB_ne h
theorem modT_zero {m : TM} {ys : List TY} (h : (modT m ys).1 = 0) : modT m ys = (0, 0) := by
  unfold modT at h ⊢
  split at h
  · simp at h
  · rename_i g
    rw [if_neg g]
    cases e1 : firstB (useC ys) m.uses 0 with
    | some x =>
      obtain ⟨c, k⟩ := x
      rw [e1] at h
      exact absurd h (firstB_ne e1)
    | none =>
      rw [e1] at h
      dsimp only at h ⊢
      cases e2 : firstB (funC (findSig m ys)) m.funs 0 with
      | some x =>
        obtain ⟨c, k⟩ := x
        rw [e2] at h
        exact absurd h (firstB_ne e2)
      | none =>
        rw [e2] at h
        dsimp only at h ⊢
        cases e3 : firstB (mainC (findSig m ys)) m.main 0 with
        | some x =>
          obtain ⟨c, k⟩ := x
          rw [e3] at h
          exact absurd h (firstB_ne e3)
        | none => rfl

set_option maxHeartbeats 1000000 in
theorem eqFault_any (c p : Int) (w : World) : Calls Tryz.prog 26 #[.agg #[.int .i64 c, .int .i64 p], .agg #[.int .i64 c, .int .i64 p]] w fun r w' => r = .returned (.bool true) ∧ Below w.heap.size w w' := by
  have h1 : (c != c) = false := by simp
  have h2 : (p != p) = false := by simp
  have h3 : (c == c) = true := by simp
  have h4 : (p == p) = true := by simp
  have hB : ∀ o o' : Obj, Below w.heap.size w ((w.alloc o).alloc o') := fun o o' => ((Below.refl _ _).alloc (Nat.le_refl _) _).alloc (by simp) _
  have HB := hide hB
  clear hB
  go_enter Tryz.func26, Tryz.ntmps26
  go_wp2
  go_ret
  exact ⟨rfl, unhide HB _ _⟩

set_option maxRecDepth 100000 in
set_option maxHeartbeats 2500000 in
theorem TypeModI_any (lo h lo2 : Nat) (v : Value) (m : TM) (a : Option Addr) (cap : Nat) (ys : List TY) (w : World) (hg : Held w)
    (hM : IsMod w lo w.heap.size h v m) (hY : IsFaces (IsFace w lo2 w.heap.size) w lo2 w.heap.size a ys) (hF : Fits m ys) :
    Calls Tryz.prog 12 #[v, .slice a ys.length cap] w fun r w' => r = .returned (.agg #[.int .i64 (modT m ys).1, .int .i64 (modT m ys).2]) ∧ Below w.heap.size w w' := by
  have HMM := hide hM
  obtain ⟨a1, a2, a3, k1, k2, k3, hv, hz, q1, q2, q3⟩ := hM
  subst hv
  obtain ⟨L1, hL1⟩ : ∃ L1, m.uses.length = L1 := ⟨_, rfl⟩
  obtain ⟨L2, hL2⟩ : ∃ L2, m.funs.length = L2 := ⟨_, rfl⟩
  obtain ⟨L3, hL3⟩ : ∃ L3, m.main.length = L3 := ⟨_, rfl⟩
  rw [hL1, hL2, hL3] at HMM ⊢
  obtain ⟨W, hW⟩ : ∃ W, W = (w.alloc (.cells #[.slice a1 L1 k1, .slice a2 L2 k2, .slice a3 L3 k3] 27)).alloc (.cells #[.int .i64 0, .int .i64 0] 45) := ⟨_, rfl⟩
  have HBW : Hid (Below w.heap.size w W) := hide (by rw [hW]; exact ((Below.refl _ _).alloc (Nat.le_refl _) _).alloc (by simp) _)
  have HWS : Hid (W.heap.size = w.heap.size + 2) := hide (by rw [hW]; simp)
  have N1 : Hid (Blk W (w.heap.size + 1) [.int .i64 0, .int .i64 0]) := hide (by rw [hW]; have := Blk.new (w.alloc (.cells #[.slice a1 L1 k1, .slice a2 L2 k2, .slice a3 L3 k3] 27)) [.int .i64 0, .int .i64 0] 45; rw [alloc_size] at this; exact this)
  have hMW := IsMod.kept h (unhide HBW) (unhide HBW).size _ _ (unhide HMM)
  have hYW := hY.kept (unhide HBW) (unhide HBW).size
  have HCHK := hide (checkOf_full lo h lo2 (.slice a1 L1 k1) (.slice a2 L2 k2) (.slice a3 L3 k3) m a cap ys W hMW hYW)
  have HMOD := hide (fun (C b : Nat) (w' : World) (hi : InvM W.heap.size W C b [.slice a1 L1 k1, .slice a2 L2 k2, .slice a3 L3 k3, .slice a ys.length cap] 0 w') => modI_any lo h lo2 a1 a2 a3 L1 L2 L3 k1 k2 k3 m a cap ys W hMW hYW hF C b w' hi)
  have HG := hide hg
  have HZ := hide (modT_zero (m := m) (ys := ys))
  obtain ⟨R, hR⟩ : ∃ R, modT m ys = R := ⟨_, rfl⟩
  rw [hR] at HMOD HZ ⊢
  clear hR q1 q2 q3 hz hL1 hL2 hL3 hMW hYW hY hF hg HMM
  obtain ⟨c, p⟩ := R
  dsimp only at HZ ⊢
  go_enter Tryz.func12, Tryz.ntmps12
  go_wp2_with fail
  rw [← hW]
  clear hW
  refine (unhide HCHK).mono ?_
  rintro r w2 ⟨C, b, rfl, hI2⟩
  have HI2 := hide hI2
  clear hI2 HCHK
  go_wp2_with fail
  refine (unhide HMOD C b w2 (unhide HI2)).mono ?_
  rintro r w3 ⟨v3, rfl, hme, hb3⟩
  have K3 := hide hb3
  have HB3 := hide ((unhide HBW).trans (hb3.mono (by rw [unhide HWS]; omega)))
  clear hb3 HMOD HI2
  rcases hme with ⟨hc, hv3⟩ | ⟨hc, hee⟩
  · have hc' : c = 0 := hc
    have hcp := unhide HZ hc'
    simp only [Prod.mk.injEq] at hcp
    obtain ⟨rfl, rfl⟩ := hcp
    subst hv3
    clear hc hc'
    go_wp2_with fail
    refine (faultOf_nil w3).mono ?_
    rintro r w4 ⟨rfl, hb4⟩
    have M4 := hide (((unhide N1).below (unhide K3) (by rw [unhide HWS]; omega)).below hb4 (by have := (unhide K3).size; rw [unhide HWS] at this; omega))
    have HB4 := hide ((unhide HB3).trans (hb4.mono (unhide HB3).size))
    have r0 := (unhide M4).cellAt (i := 0) rfl
    have r1 := (unhide M4).cellAt (i := 1) rfl
    have rf0 := (unhide M4).2 0
    have rf1 := (unhide M4).2 1
    clear hb4
    go_wp2
    have hn := ((unhide M4).set 0 (.int .i64 0) (by simp)).set 1 (.int .i64 0) (by simp)
    have hFB := ((unhide HB4).setCell (p := ⟨w.heap.size + 1, 0, none⟩) (show w.heap.size ≤ w.heap.size + 1 from Nat.le_succ _) (.int .i64 0)).setCell (p := ⟨w.heap.size + 1, 1, none⟩) (show w.heap.size ≤ w.heap.size + 1 from Nat.le_succ _) (.int .i64 0)
    obtain ⟨FW, hF⟩ : ∃ FW, FW = (w4.setCell ⟨w.heap.size + 1, 0, none⟩ (.int .i64 0)).setCell ⟨w.heap.size + 1, 1, none⟩ (.int .i64 0) := ⟨_, rfl⟩
    rw [← hF] at hn hFB ⊢
    have g0 := hn.cellAt (i := 0) rfl
    have g1 := hn.cellAt (i := 1) rfl
    refine bodyPost_ret (v := .agg #[.int .i64 0, .int .i64 0]) (by simp [results, Tryz.results12, go_sem, g0, g1]) rfl ⟨?_, hFB⟩
    rfl
  · have hc' : c ≠ 0 := hc
    have hee' : IsErr w3 w3.heap.size v3 c p := hee
    have HFO := hide (faultOf_hit v3 c p w3 ((unhide HG).kept (unhide HB3)) hee')
    obtain ⟨eb, rfl, _, _, _⟩ := hee'
    clear hc hc' hee
    go_wp2_with fail
    refine (unhide HFO).mono ?_
    rintro r w4 ⟨rfl, hb4⟩
    have M4 := hide (((unhide N1).below (unhide K3) (by rw [unhide HWS]; omega)).below hb4 (by have := (unhide K3).size; rw [unhide HWS] at this; omega))
    have HB4 := hide ((unhide HB3).trans (hb4.mono (unhide HB3).size))
    have r0 := (unhide M4).cellAt (i := 0) rfl
    have r1 := (unhide M4).cellAt (i := 1) rfl
    have rf0 := (unhide M4).2 0
    have rf1 := (unhide M4).2 1
    clear hb4
    go_wp2
    have hn := ((unhide M4).set 0 (.int .i64 c) (by simp)).set 1 (.int .i64 p) (by simp)
    have hFB := ((unhide HB4).setCell (p := ⟨w.heap.size + 1, 0, none⟩) (show w.heap.size ≤ w.heap.size + 1 from Nat.le_succ _) (.int .i64 c)).setCell (p := ⟨w.heap.size + 1, 1, none⟩) (show w.heap.size ≤ w.heap.size + 1 from Nat.le_succ _) (.int .i64 p)
    obtain ⟨FW, hF⟩ : ∃ FW, FW = (w4.setCell ⟨w.heap.size + 1, 0, none⟩ (.int .i64 c)).setCell ⟨w.heap.size + 1, 1, none⟩ (.int .i64 p) := ⟨_, rfl⟩
    rw [← hF] at hn hFB ⊢
    have g0 := hn.cellAt (i := 0) rfl
    have g1 := hn.cellAt (i := 1) rfl
    refine bodyPost_ret (v := .agg #[.int .i64 c, .int .i64 p]) (by simp [results, Tryz.results12, go_sem, g0, g1]) rfl ⟨?_, hFB⟩
    rfl
end Go.Proofs.YtgmohnbjfemebaaGreatDoor

namespace Go.Proofs.YtgmohnbjfemebaaGreatDoor
open Go.RowKit Go.PlainAid

set_option maxRecDepth 100000 in
set_option maxHeartbeats 2500000 in
theorem fnExactTypeMod_walk (h : Nat) (v : Value) (m : TM) (a : Option Addr) (cap : Nat) (ys : List TY) (w : World) (hg : Held w) (hM : IsMod w 0 w.heap.size h v m) (hY : IsFaces (IsFace w 0 w.heap.size) w 0 w.heap.size a ys) (hyl : ys.length ≤ maxLen) :
    Calls Tryz.prog 7 #[v, .slice a ys.length cap] w fun r w' => r = .returned (.bool true) ∧ Below w.heap.size w w' := by
  have HG := hide hg
  have HSM := hide (fun (W' : World) (hb : Below w.heap.size w W') => szTreeMod_any 0 h v m W' 1048576 (IsMod.kept h hb hb.size _ _ hM) (by omega) (by omega))
  have HSF := hide (fun (W' : World) (l : Int) (hb : Below w.heap.size w W') (g0 : 0 ≤ l) (g1 : l ≤ 1048576) => szTreeFaceS_of 0 (szTypeFace_any 0) a cap ys W' l (hY.kept hb hb.size) hyl g0 g1)
  have HTM := hide (fun (ht : m.wt ≤ 1048576) (W' : World) (hb : Below w.heap.size w W') => toTreeMod_any 0 h v m W' (IsMod.kept h hb hb.size _ _ hM) ht)
  have HTF := hide (fun (ht : ys.length + wtFaces ys ≤ 1048576) (W' : World) (hb : Below w.heap.size w W') => toTreeFaceS_of 0 (toTypeFace_any 0) a cap ys W' (hY.kept hb hb.size) ht)
  have HYL := hide hyl
  unfold maxLen at hyl
  obtain ⟨a1, a2, a3, L1, L2, L3, k1, k2, k3, rfl⟩ := hM.formE
  obtain ⟨W, hW⟩ : ∃ W, W = w.alloc (.cells #[.slice a1 L1 k1, .slice a2 L2 k2, .slice a3 L3 k3] 50) := ⟨_, rfl⟩
  have HBW : Hid (Below w.heap.size w W) := hide (by rw [hW]; exact (Below.refl _ _).alloc (Nat.le_refl _) _)
  have HWS : Hid (W.heap.size = w.heap.size + 1) := hide (by rw [hW]; simp)
  have N0 : Hid (Blk W w.heap.size [.slice a1 L1 k1, .slice a2 L2 k2, .slice a3 L3 k3]) := hide (by rw [hW]; exact Blk.new w _ _)
  clear hM hY hg
  go_enter Tryz.func7, Tryz.ntmps7
  go_wp2_with fail
  rw [← hW]
  clear hW
  refine (unhide HSM _ (unhide HBW)).mono ?_
  rintro r w1 ⟨rfl, hb1⟩
  have K1 := hide hb1
  have HB1 := hide ((unhide HBW).trans (hb1.mono (by rw [unhide HWS]; omega)))
  clear hb1 HSM
  by_cases g1 : leftI 1048576 m.wt < 0
  · generalize leftI 1048576 m.wt = L at g1
    go_wp2
    go_ret
    exact ⟨rfl, unhide HB1⟩
  obtain ⟨wt1, el1⟩ := left_ge g1
  rw [el1]
  obtain ⟨l1, hl1⟩ : ∃ l1, (1048576 : Int) - (m.wt : Int) = l1 := ⟨_, rfl⟩
  rw [hl1]
  have hl1a : 0 ≤ l1 := by omega
  have hl1b : l1 ≤ 1048576 := by omega
  clear g1 el1 hl1
  go_wp2_with fail
  refine (unhide HSF _ l1 (unhide HB1) hl1a hl1b).mono ?_
  rintro r w2 ⟨rfl, hb2⟩
  have K2 := hide ((unhide K1).trans (hb2.mono (unhide K1).size))
  have HB2 := hide ((unhide HB1).trans (hb2.mono (unhide HB1).size))
  clear hb2 HSF K1 HB1
  by_cases g2 : leftI l1 (ys.length + wtFaces ys) < 0
  · generalize leftI l1 (ys.length + wtFaces ys) = L at g2
    go_wp2
    go_ret
    exact ⟨rfl, unhide HB2⟩
  obtain ⟨wt2, el2⟩ := left_ge g2
  have hwm : m.wt ≤ 1048576 := by omega
  have hwy : ys.length + wtFaces ys ≤ 1048576 := by omega
  have HTM' := hide (unhide HTM hwm)
  have HTF' := hide (unhide HTF hwy)
  have HFIT : Hid (Fits m ys) := hide ⟨funs_small hwm, unhide HYL, sigs_small hwy⟩
  have HSP := hide (fun (W' : World) (l0 l1 : Nat) (v' : Value) (a' : Option Addr) (c' : Nat) (p1 : IsMod W' l0 W'.heap.size h v' m) (p2 : IsFaces (IsFace W' l1 W'.heap.size) W' l1 W'.heap.size a' ys) => TypeModS_any l0 h l1 v' m a' c' ys W' p1 hwm p2 (unhide HFIT))
  have HIM := hide (fun (W' : World) (l0 l1 : Nat) (v' : Value) (a' : Option Addr) (c' : Nat) (hb : Below w.heap.size w W') (p1 : IsMod W' l0 W'.heap.size h v' m) (p2 : IsFaces (IsFace W' l1 W'.heap.size) W' l1 W'.heap.size a' ys) => TypeModI_any l0 h l1 v' m a' c' ys W' ((unhide HG).kept hb) p1 p2 (unhide HFIT))
  obtain ⟨T, hT⟩ : ∃ T, modT m ys = T := ⟨_, rfl⟩
  rw [hT] at HSP HIM
  obtain ⟨c, p⟩ := T
  dsimp only at HSP HIM
  generalize leftI l1 (ys.length + wtFaces ys) = L at g2
  have hws2 : w.heap.size + 1 ≤ w2.heap.size := by have := (unhide K2).size; rw [unhide HWS] at this; exact this
  have M2 := hide ((unhide N0).below (unhide K2) (by rw [unhide HWS]; omega))
  have z0 := (unhide M2).cellAt (i := 0) rfl
  have z1 := (unhide M2).cellAt (i := 1) rfl
  have z2 := (unhide M2).cellAt (i := 2) rfl
  clear el2 hwm hwy HTM HTF N0 wt1 wt2 hT hl1a hl1b K2
  go_wp2_with fail
  refine (unhide HTM' _ (unhide HB2)).mono ?_
  rintro r w3 ⟨v3, rfl, p3, hb3⟩
  have P3 := hide p3
  have B3 := hide hb3
  have HB3 := hide ((unhide HB2).trans (hb3.mono (unhide HB2).size))
  clear p3 hb3 z0 z1 z2
  go_wp2_with fail
  refine (unhide HTF' _ (unhide HB3)).mono ?_
  rintro r w4 ⟨a4, c4, rfl, p4, hb4⟩
  have P4 := hide p4
  have HSC := hide (unhide HSP w4 _ _ v3 a4 c4 (IsMod.kept h hb4 hb4.size _ _ (unhide P3)) p4)
  have B4 := hide ((unhide B3).trans (hb4.mono (unhide B3).size))
  have HB4 := hide ((unhide HB3).trans (hb4.mono (unhide HB3).size))
  clear p4 hb4
  go_wp2_with fail
  refine (unhide HSC).mono ?_
  rintro r w5 ⟨rfl, hb5⟩
  have B5 := (unhide B4).trans (hb5.mono (unhide B4).size)
  have HB5 := (unhide HB4).trans (hb5.mono (unhide HB4).size)
  obtain ⟨A, hA⟩ : ∃ A, A = w5.alloc (.cells #[.int .i64 c, .int .i64 p] 45) := ⟨_, rfl⟩
  have hbA : Below w5.heap.size w5 A := by rw [hA]; exact (Below.refl _ _).alloc (Nat.le_refl _) _
  have G6 := hide (show Blk A w5.heap.size [.int .i64 c, .int .i64 p] by rw [hA]; exact Blk.new w5 _ _)
  have hAS : A.heap.size = w5.heap.size + 1 := by rw [hA]; simp
  have B2A := B5.trans (hbA.mono B5.size)
  have HBA := hide (HB5.trans (hbA.mono HB5.size))
  have MA := hide ((unhide M2).below B2A (by omega))
  have hwsA : w.heap.size + 1 ≤ A.heap.size := Nat.le_trans hws2 B2A.size
  have h5A : w5.heap.size < A.heap.size := by rw [hAS]; exact Nat.lt_succ_self _
  have mA : ∀ (i : Nat) (x : Value), A.cell? ⟨w.heap.size, i, none⟩ = some x → (w5.alloc (.cells #[.int .i64 c, .int .i64 p] 45)).cell? ⟨w.heap.size, i, none⟩ = some x := fun i x hx => by rw [← hA]; exact hx
  have z0 := mA 0 _ ((unhide MA).cellAt (i := 0) rfl)
  have z1 := mA 1 _ ((unhide MA).cellAt (i := 1) rfl)
  have z2 := mA 2 _ ((unhide MA).cellAt (i := 2) rfl)
  clear hb5 B5 HB5 hbA hAS B2A P3 P4 B3 B4 HB3 HB4 HSC HSP M2 HB2 hws2 mA
  go_wp2_with fail
  rw [← hA]
  clear hA z0 z1 z2
  refine (unhide HTM' _ (unhide HBA)).mono ?_
  rintro r w6 ⟨v6, rfl, p6, hb6⟩
  obtain ⟨e1, e2, e3, f1, f2, f3, o1, o2, o3, rfl⟩ := p6.formE
  obtain ⟨D, hD⟩ : ∃ D, D = w6.alloc (.cells #[.slice e1 f1 o1, .slice e2 f2 o2, .slice e3 f3 o3] 27) := ⟨_, rfl⟩
  have hbD : Below w6.heap.size w6 D := by rw [hD]; exact (Below.refl _ _).alloc (Nat.le_refl _) _
  have hDS : D.heap.size = w6.heap.size + 1 := by rw [hD]; simp
  have X0 := hide (show Blk D w6.heap.size [.slice e1 f1 o1, .slice e2 f2 o2, .slice e3 f3 o3] by rw [hD]; exact Blk.new w6 _ _)
  have hAD : Below A.heap.size A D := hb6.trans (hbD.mono hb6.size)
  have HBD := hide ((unhide HBA).trans (hAD.mono (unhide HBA).size))
  have P6 := hide (IsMod.kept h hbD hbD.size _ _ p6)
  have MD := hide ((unhide MA).below hAD (by omega))
  have GD := hide ((unhide G6).below hAD h5A)
  have hwsD : w.heap.size + 1 ≤ D.heap.size := Nat.le_trans hwsA hAD.size
  have h5D : w5.heap.size < D.heap.size := Nat.lt_of_lt_of_le h5A hAD.size
  have h6D : w6.heap.size < D.heap.size := by rw [hDS]; exact Nat.lt_succ_self _
  clear p6 hb6 hbD hDS hAD MA G6 HBA hwsA h5A
  go_wp2_with fail
  rw [← hD]
  clear hD
  refine (unhide HTF' D (unhide HBD)).mono ?_
  rintro r w7 ⟨a7, c7, rfl, p7, hb7⟩
  have HB7 := hide ((unhide HBD).trans (hb7.mono (unhide HBD).size))
  have P6' := hide (IsMod.kept h hb7 hb7.size _ _ (unhide P6))
  have P7 := hide p7
  have M7 := hide ((unhide MD).below hb7 (by omega))
  have G7 := hide ((unhide GD).below hb7 h5D)
  have X7 := hide ((unhide X0).below hb7 h6D)
  have hws7 : w.heap.size + 1 ≤ w7.heap.size := Nat.le_trans hwsD hb7.size
  have h57 : w5.heap.size < w7.heap.size := Nat.lt_of_lt_of_le h5D hb7.size
  have h67 : w6.heap.size < w7.heap.size := Nat.lt_of_lt_of_le h6D hb7.size
  have HIC := hide (unhide HIM w7 _ _ (.agg #[.slice e1 f1 o1, .slice e2 f2 o2, .slice e3 f3 o3]) a7 c7 (unhide HB7) (unhide P6') (unhide P7))
  have u0 := (unhide X7).cellAt (i := 0) rfl
  have u1 := (unhide X7).cellAt (i := 1) rfl
  have u2 := (unhide X7).cellAt (i := 2) rfl
  clear p7 hb7 P6 MD GD X0 HBD HIM hwsD h5D h6D
  go_wp2_with fail
  refine (unhide HIC).mono ?_
  rintro r w8 ⟨rfl, hb8⟩
  have HB8 := (unhide HB7).trans (hb8.mono (unhide HB7).size)
  obtain ⟨E, hE⟩ : ∃ E, E = w8.alloc (.cells #[.int .i64 c, .int .i64 p] 45) := ⟨_, rfl⟩
  have hbE : Below w8.heap.size w8 E := by rw [hE]; exact (Below.refl _ _).alloc (Nat.le_refl _) _
  have h7E : Below w7.heap.size w7 E := hb8.trans (hbE.mono hb8.size)
  have HBE := hide (HB8.trans (hbE.mono HB8.size))
  have PM := hide (IsMod.kept h h7E h7E.size _ _ (unhide P6'))
  have PF := hide ((unhide P7).kept h7E h7E.size)
  have ME := hide ((unhide M7).below h7E (by omega))
  have XE := hide ((unhide X7).below h7E h67)
  have hwsE : w.heap.size + 1 ≤ E.heap.size := Nat.le_trans hws7 h7E.size
  have h6E : w6.heap.size < E.heap.size := Nat.lt_of_lt_of_le h67 h7E.size
  have g8 := (unhide G7).below hb8 h57
  have y0 := g8.cellAt (i := 0) rfl
  have y1 := g8.cellAt (i := 1) rfl
  have h58 : w5.heap.size < w8.heap.size := Nat.lt_of_lt_of_le h57 hb8.size
  have hne8 : w5.heap.size ≠ w8.heap.size := by omega
  clear hb8 HB8 hbE h7E P6' P7 M7 G7 X7 HB7 HIC hws7 h57 h67 u0 u1 u2 g8
  go_wp2_with fail
  rw [← hE]
  clear hE y0 y1 h58 hne8
  refine (eqFault_any c p E).mono ?_
  rintro r w9 ⟨rfl, hb9⟩
  have HB9 := hide ((unhide HBE).trans (hb9.mono (unhide HBE).size))
  have QM := hide (IsMod.kept h hb9 hb9.size _ _ (unhide PM))
  have QF := hide ((unhide PF).kept hb9 hb9.size)
  have R0 := hide ((unhide ME).below hb9 (by omega))
  have R2 := hide ((unhide XE).below hb9 h6E)
  have hws9 : w.heap.size + 1 ≤ w9.heap.size := Nat.le_trans hwsE hb9.size
  have h69 : w6.heap.size < w9.heap.size := Nat.lt_of_lt_of_le h6E hb9.size
  have HSK1 := hide (fun (w' : World) (hb : Below w9.heap.size w9 w') => (⟨((unhide R0).below hb (by omega)).cellAt (i := 0) rfl, ((unhide R0).below hb (by omega)).cellAt (i := 1) rfl, ((unhide R0).below hb (by omega)).cellAt (i := 2) rfl, ((unhide R2).below hb h69).cellAt (i := 0) rfl, ((unhide R2).below hb h69).cellAt (i := 1) rfl, ((unhide R2).below hb h69).cellAt (i := 2) rfl⟩ : w'.cell? ⟨w.heap.size, 0, none⟩ = some (.slice a1 L1 k1) ∧ w'.cell? ⟨w.heap.size, 1, none⟩ = some (.slice a2 L2 k2) ∧ w'.cell? ⟨w.heap.size, 2, none⟩ = some (.slice a3 L3 k3) ∧ w'.cell? ⟨w6.heap.size, 0, none⟩ = some (.slice e1 f1 o1) ∧ w'.cell? ⟨w6.heap.size, 1, none⟩ = some (.slice e2 f2 o2) ∧ w'.cell? ⟨w6.heap.size, 2, none⟩ = some (.slice e3 f3 o3)))
  clear hb9 PM PF ME XE HBE hwsE h6E
  go_wp2
  go_region_held3 (fun w' => w'.cell? ⟨w.heap.size, 0, none⟩ = some (.slice a1 L1 k1) ∧ w'.cell? ⟨w.heap.size, 1, none⟩ = some (.slice a2 L2 k2) ∧ w'.cell? ⟨w.heap.size, 2, none⟩ = some (.slice a3 L3 k3) ∧ w'.cell? ⟨w6.heap.size, 0, none⟩ = some (.slice e1 f1 o1) ∧ w'.cell? ⟨w6.heap.size, 1, none⟩ = some (.slice e2 f2 o2) ∧ w'.cell? ⟨w6.heap.size, 2, none⟩ = some (.slice e3 f3 o3))
    (exact unhide HSK1 _ (by first | with_reducible exact q11 | with_reducible exact q10 | with_reducible exact Below.refl _ _ | with_reducible exact (Below.refl _ _).drew))
    (first
      | (go_at_call 18; refine (unhide HTM' _ (unhide HB9).drew).mono ?_; rintro r w10 ⟨v10, rfl, p10, hb10⟩; have q10 : Below w9.heap.size w9 w10 := (Below.refl _ w9).drew.trans hb10)
      | (go_at_call 22; refine (eqTreeMod_any _ _ h h _ v10 m w10 (IsMod.kept h q10 q10.size _ _ (unhide QM)) p10).mono ?_; rintro r w11 ⟨rfl, hb11⟩; have q11 : Below w9.heap.size w9 w11 := q10.trans (hb11.mono q10.size)))
  have HB11 := hide ((unhide HB9).trans (q11.mono (unhide HB9).size))
  have Q11 := hide q11
  clear p10 hb10 hb11 q10 q11 HSK1 HTM' QM R0 R2
  go_wp2_with fail
  refine (unhide HTF' w11 (unhide HB11)).mono ?_
  rintro r w12 ⟨a12, c12, rfl, p12, hb12⟩
  have Q12 := hide ((unhide Q11).trans (hb12.mono (unhide Q11).size))
  have P12 := hide p12
  clear p12 hb12
  go_wp2_with fail
  refine (eqTreeFaceS_of _ _ (eqTypeFace_any _ _) a7 a12 c7 c12 ys w12 (unhide HYL) ((unhide QF).kept (unhide Q12) (unhide Q12).size) (unhide P12)).mono ?_
  rintro r w13 ⟨rfl, hb13⟩
  have Q13 := (unhide Q12).trans (hb13.mono (unhide Q12).size)
  have HBF := hide ((unhide HB9).trans (Q13.mono (unhide HB9).size))
  clear hb13 Q13
  go_wp2
  go_ret
  exact ⟨rfl, unhide HBF⟩
end Go.Proofs.YtgmohnbjfemebaaGreatDoor
