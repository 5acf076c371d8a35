/- Rows of variables that appending makes; the walks of spec's let, and of expr at a let. Conditions: all can be read. The walk of spec's let. Conditions: all can be read. The walks of spec's expr at primitives and rows that are written. Conditions: all can be read. The walk of spec's expr at a choice. Conditions: all can be read. The walk of spec's expr at calls. Conditions: all can be read. The walks of spec's expr at numbers, flags and variables. Conditions: all can be read. -/
import Derived.Test.YtgmohnbjfemebaaGreatDoorEAall
import Derived.Deep.AppendSrc
import Derived.Deep.RegionHeld3
import Derived.Test.YtgmohnbjfemebaaGreatDoorHb
import Derived.Test.YtgmohnbjfemebaaGreatDoorEBall
namespace Go.Proofs.YtgmohnbjfemebaaGreatDoor
open Go.RowKit Go.PlainAid

def cellsA (x : TA) : List Value := [.string x.name, .int .i64 x.type]
def flatA (l : List TA) : List Value := l.flatMap cellsA
theorem flatA_len (l : List TA) : (flatA l).length = l.length * 2 := by
  induction l with
  | nil => rfl
  | cons x t ih => unfold flatA at ih ⊢; rw [List.flatMap_cons, List.length_append, ih]; simp [cellsA]; omega
theorem flatA_append (l r : List TA) : flatA (l ++ r) = flatA l ++ flatA r := by unfold flatA; rw [List.flatMap_append]
theorem flatA_at (l : List TA) (j : Nat) (hj : j < l.length) : (flatA l)[j * 2]? = some (.string l[j].name) ∧ (flatA l)[j * 2 + 1]? = some (.int .i64 l[j].type) := by
  have h : flatA l = flatA (l.take j) ++ (cellsA l[j] ++ flatA (l.drop (j + 1))) := by
    conv => lhs; rw [← List.take_append_drop j l, List.drop_eq_getElem_cons hj, flatA_append]
    rfl
  have hl : (flatA (l.take j)).length = j * 2 := by rw [flatA_len, List.length_take]; omega
  rw [h]
  exact ⟨by rw [List.getElem?_append_right (by omega), hl, Nat.sub_self]; rfl, by rw [List.getElem?_append_right (by omega), hl, Nat.add_sub_cancel_left]; rfl⟩
theorem flatA_one (l : List TA) : ∀ u ∈ flatA l, u.oneCell' = true := fun u hu => by
  unfold flatA at hu
  obtain ⟨p, _, hu⟩ := List.mem_flatMap.1 hu
  unfold cellsA at hu
  simp only [List.mem_cons, List.not_mem_nil, or_false] at hu
  rcases hu with rfl | rfl <;> rfl
/-- A row that appending made can be read. -/
theorem args_row {W : World} {base k : Nat} {v : Value} {l : List TA} (h : W.ownsRow base 37 2 v k (flatA l)) (hk : k = l.length) (hs : ∀ x ∈ l, x.name.size ≤ maxLen) : ∃ (a : Option Addr) (cap : Nat), v = .slice a l.length cap ∧ IsArgs (IsArg W 0 W.heap.size) W 0 W.heap.size a l := by
  have hh := h
  rcases h.2 with ⟨h1, h2⟩ | ⟨g, cap, cur, h1, _⟩
  · refine ⟨none, 0, by rw [h1, ← hk, h2], .inl (List.length_eq_zero_iff.1 (by omega))⟩
  · subst h1
    refine ⟨some ⟨g, 0, none⟩, cap, by rw [hk], .inr ⟨g, 0, rfl, Nat.zero_le _, (hh.lt g rfl).2, fun j hj => ?_⟩⟩
    have e := flatA_at l j hj
    have c0 := hh.cells (g := g) rfl _ _ e.1
    have c1 := hh.cells (g := g) rfl _ _ e.2
    rw [Addr.add_lit, Nat.zero_add] at c0 c1
    exact ⟨_, _, by rw [Nat.zero_add]; exact c0, by rw [Nat.zero_add]; exact c1, rfl, hs _ (List.getElem_mem hj)⟩
theorem names_of {W : World} {lo n : Nat} {a : Option Addr} {l : List TA} (h : IsArgs (IsArg W lo n) W lo n a l) : ∀ x ∈ l, x.name.size ≤ maxLen := fun x hx => by
  rcases h with rfl | ⟨b, off, _, _, _, hcs⟩
  · cases hx
  · obtain ⟨j, hj, rfl⟩ := List.getElem_of_mem hx
    obtain ⟨c0, c1, _, _, hr⟩ := hcs j hj
    exact hr.2
theorem app0A (b : Nat) (aa : Option Addr) (ca : Nat) (W : World) : (Builtin.append_ #[29, 29] 29 #[.slice (some ⟨b, 0, none⟩) 0 0, .slice aa 0 ca]).run Tryz.prog W = .ok (.slice (some ⟨b, 0, none⟩) 0 0) W := by
  obtain ⟨i0, hi, hz0, hz1, hz2⟩ := info_parts infoArg
  have hs : Src Tryz.prog i0.size 29 (.slice aa 0 ca) 0 [] W := by
    cases aa with
    | none => exact Src.ofNil W Tryz.underlying29 ca
    | some ad => exact Src.ofSlice W Tryz.underlying29 ad 0 ca [] (by simp) (fun j u hu => by simp at hu) (fun u hu => by cases hu)
  have := run_append_room_src (P := Tryz.prog) W 29 29 29 37 i0 Tryz.underlying29 hi b 0 0 0 (.slice aa 0 ca) 0 [] hs (by omega) (fun j hj => by simp at hj) (fun j hj => by simp at hj)
  simpa [World.setCells] using this
theorem app_vars (X : World) (n0 B lo n : Nat) (a : Option Addr) (cap : Nat) (vars : List TA) (hown : X.ownsRow n0 37 2 (.slice (some ⟨B, 0, none⟩) 0 0) 0 []) (hV : IsArgs (IsArg X lo n) X lo n a vars) (hl : vars.length ≤ 1100000) (hbase : n0 ≤ X.heap.size) :
    ∃ v Y, (Builtin.append_ #[29, 29] 29 #[.slice (some ⟨B, 0, none⟩) 0 0, .slice a vars.length cap]).run Tryz.prog X = .ok v Y ∧ Y.ownsRow n0 37 2 v vars.length (flatA vars) ∧ X.grownBy Y (some B) := by
  obtain ⟨i0, hi, hz0, hz1, hz2⟩ := info_parts infoArg
  rcases hV with rfl | ⟨b, off, rfl, _, _, hcs⟩
  · exact ⟨_, _, app0A B a cap X, hown, gr_refl _ _⟩
  · obtain ⟨v, Y, h1, h2, h3, _⟩ := run_append_own (P := Tryz.prog) X n0 29 29 37 i0 (.agg #[.string ⟨#[]⟩, .int .i64 0]) 2 24 Tryz.underlying29 hi hz0 hz1 hz2 rfl (by decide) (.slice (some ⟨B, 0, none⟩) 0 0) 0 [] hown ⟨b, off, none⟩ vars.length cap (flatA vars) (flatA_len vars) (fun j u hu => by
        have hj : j < vars.length * 2 := by
          rcases Nat.lt_or_ge j (vars.length * 2) with g | g
          · exact g
          · rw [List.getElem?_eq_none (by rw [flatA_len]; exact g)] at hu; cases hu
        have hj2 : j / 2 < vars.length := by omega
        obtain ⟨c0, c1, d0, d1, hr⟩ := hcs (j / 2) hj2
        have hv := hr.1
        simp only [Value.agg.injEq, Array.mk.injEq, List.cons.injEq, and_true] at hv
        obtain ⟨rfl, rfl⟩ := hv
        have e := flatA_at vars (j / 2) hj2
        rw [Addr.add_lit]
        rcases Nat.mod_two_eq_zero_or_one j with m0 | m0
        · have ej : j / 2 * 2 = j := by omega
          rw [ej] at e d0
          rw [e.1] at hu
          cases hu
          exact d0
        · have ej : j / 2 * 2 + 1 = j := by omega
          have ej2 : off + j / 2 * 2 + 1 = off + j := by omega
          rw [ej] at e
          rw [ej2] at d1
          rw [e.2] at hu
          cases hu
          exact d1) (flatA_one vars) (by unfold maxLen; omega) (by omega) hbase
    rw [Nat.zero_add, List.nil_append] at h2
    exact ⟨v, Y, h1, h2, h3⟩
theorem app_one (X : World) (n0 k D : Nat) (v : Value) (l : List TA) (nm : ByteArray) (t : Int) (hown : X.ownsRow n0 37 2 v k (flatA l)) (hD : X.cell? ⟨D, 0, none⟩ = some (.string nm) ∧ X.cell? ⟨D, 1, none⟩ = some (.int .i64 t)) (hl : k ≤ 1100000) (hbase : n0 ≤ X.heap.size) :
    ∃ z Z, (Builtin.append_ #[29, 29] 29 #[v, .slice (some ⟨D, 0, none⟩) 1 1]).run Tryz.prog X = .ok z Z ∧ Z.ownsRow n0 37 2 z (k + 1) (flatA (l ++ [⟨nm, t⟩])) ∧ Below n0 X Z := by
  obtain ⟨i0, hi, hz0, hz1, hz2⟩ := info_parts infoArg
  obtain ⟨z, Z, h1, h2, h3, _⟩ := run_append_own (P := Tryz.prog) X n0 29 29 37 i0 (.agg #[.string ⟨#[]⟩, .int .i64 0]) 2 24 Tryz.underlying29 hi hz0 hz1 hz2 rfl (by decide) v k (flatA l) hown ⟨D, 0, none⟩ 1 1 [.string nm, .int .i64 t] rfl (fun j u hu => by
      rw [Addr.add_lit, Nat.zero_add]
      match j, hu with
      | 0, hu => cases hu; exact hD.1
      | 1, hu => cases hu; exact hD.2
      | j + 2, hu => simp at hu) (by simp [Value.oneCell']) (by unfold maxLen; omega) (by omega) hbase
  exact ⟨z, Z, h1, by rw [flatA_append]; exact h2, (Below.refl _ _).grown h3 hbase (fun q hq => (hown.lt q hq).1)⟩
theorem typ_let (F : Fnd) (mm : Int) (nm md : ByteArray) (e0 e1 : TE) (vars : List TA) : (TE.node 6 mm nm md [e0, e1]).typ F vars = if (e0.typ F vars).2 ≠ 0 then (0, (e0.typ F vars).2) else e1.typ F (vars ++ [⟨nm, (e0.typ F vars).1⟩]) := by
  rw [TE.typ, kidsT]
  by_cases h0 : (e0.typ F vars).2 = 0
  · rw [if_neg (by rw [h0]; simp), if_neg (by rw [h0]; simp)]
    have hnx : nextV (decide ((6 : Int) = 6)) nm (e0.typ F vars).1 vars = vars ++ [⟨nm, (e0.typ F vars).1⟩] := rfl
    rw [hnx, kidsT]
    have hcode := typ_code F e1 (vars ++ [⟨nm, (e0.typ F vars).1⟩])
    obtain ⟨T, hT⟩ : ∃ T, e1.typ F (vars ++ [⟨nm, (e0.typ F vars).1⟩]) = T := ⟨_, rfl⟩
    rw [hT] at hcode ⊢
    obtain ⟨t, c⟩ := T
    dsimp only at hcode ⊢
    by_cases h1 : c = 0
    · subst h1
      rw [if_neg (by simp), kidsT]
      unfold endT
      rw [if_neg (by simp)]
      rfl
    · rw [if_pos h1]
      unfold endT
      rw [if_pos h1, hcode.2 h1]
  · rw [if_pos h0, if_pos h0]
    unfold endT
    rw [if_pos h0]
end Go.Proofs.YtgmohnbjfemebaaGreatDoor

namespace Go.Proofs.YtgmohnbjfemebaaGreatDoor
open Go.RowKit Go.PlainAid

/-- A step of a region that draws its order: appending, its run being known. -/
theorem step_run {P : Program} {w : World} {ops : Array Oper} {o : Oper} {a : Act} {K : Act → World → Prop} {Q : Exit → Act → World → Prop} {E : Prop} (hgd : o.guard = none) (s x : Operand) (t : TypeId)
    (ho : o.op = .call { callee := .builtin .append, args := #[s, x], argTypes := #[t, t] }) (hty : o.type = t) (v y : Value) (hs : a.eval s = v) (hx : a.eval x = y) (v' : Value) (w' : World) (hr : (Builtin.append_ #[t, t] t #[v, y]).run P w = .ok v' w') (h : K (a.put o.dst v') w') :
    if Region.wanted o (yielded ops a.tmps) = true then Oper.wp P o a w K Q else E := by
  have hw : Region.wanted o (yielded ops a.tmps) = true := by simp [Region.wanted, hgd]
  rw [if_pos hw]
  unfold Oper.wp execOp
  simp only [ho, hty, resolve, invoke, builtin, Sem.run_bind, Sem.run_pure, Result.andThen_ok, List.map_toArray, List.map_cons, List.map_nil, hs, hx, hr]
  exact h
set_option maxRecDepth 100000 in
set_option maxHeartbeats 8000000 in
theorem letS_of (P : Nat) (m : TM) (ys : List TY) (h : Nat) (IH : ExprS P m ys h) (lo lo2 : Nat) (mm : Int) (nm md : ByteArray) (e0 e1 : TE) (x : Value) (w : World) (a : Option Addr) (cap : Nat) (vars : List TA)
    (hE : IsE w lo w.heap.size (h + 1) x (.node 6 mm nm md [e0, e1])) (hok : e0.ok = true ∧ e1.ok = true) (hC : Ctx w P m ys) (hV : IsArgs (IsArg w lo2 w.heap.size) w lo2 w.heap.size a vars) (hd : vars.length + e0.deep ≤ 1100000 ∧ vars.length + 1 + e1.deep ≤ 1100000) :
    Calls Tryz.prog 85 #[.pointer (some ⟨P, 0, none⟩), .slice a vars.length cap, x] w fun r w' => r = .returned (.tuple #[.int .i64 ((TE.node 6 mm nm md [e0, e1]).typ (findSig m ys) vars).1, .int .i64 ((TE.node 6 mm nm md [e0, e1]).typ (findSig m ys) vars).2]) ∧ Below w.heap.size w w' := by
  rw [typ_let]
  have HNS := hide (names_of hV)
  obtain ⟨ka, kc, rfl, hz, hk⟩ := hE
  have hnz := hz.1
  obtain ⟨W, hW⟩ : ∃ W, W = w.alloc (.cells #[.int .i64 6, .int .i64 mm, .string nm, .string md, .slice ka 2 kc] 31) := ⟨_, rfl⟩
  have HBW : Hid (Below w.heap.size w W) := hide (by rw [hW]; exact (Below.refl _ _).alloc (Nat.le_refl _) _)
  have HWS : Hid (W.heap.size = w.heap.size + 1) := hide (by rw [hW]; simp)
  have n2 : W.cell? ⟨w.heap.size, 2, none⟩ = some (.string nm) := by rw [hW, alloc_cell]; rfl
  have n4 : W.cell? ⟨w.heap.size, 4, none⟩ = some (.slice ka 2 kc) := by rw [hW, alloc_cell]; rfl
  rcases hk with hq | ⟨b, off, rfl, hbl, hbn0, hcs⟩
  · cases hq
  have hbn : b < W.heap.size := Nat.lt_of_lt_of_le hbn0 (unhide HBW).size
  obtain ⟨c0, c1, c2, c3, c4, d0, d1, d2, d3, d4, hr0⟩ := hcs 0 (by simp)
  obtain ⟨f0, f1, f2, f3, f4, g0, g1, g2, g3, g4, hr1⟩ := hcs 1 (by simp)
  simp only [Nat.zero_mul, Nat.add_zero, Nat.one_mul] at d0 d1 d2 d3 d4 g0 g1 g2 g3 g4
  have hr0' : IsE W lo W.heap.size h (.agg #[c0, c1, c2, c3, c4]) e0 := IsE.kept (unhide HBW) (unhide HBW).size _ _ _ hr0
  have hr1' : IsE W lo W.heap.size h (.agg #[f0, f1, f2, f3, f4]) e1 := IsE.kept (unhide HBW) (unhide HBW).size _ _ _ hr1
  have HCALL := hide (IH lo lo2 _ _ W a cap vars hr0' hok.1 (hC.kept (unhide HBW)) (hV.kept (unhide HBW) (unhide HBW).size) (by omega))
  have HR1 := hide hr1'
  have HC := hide (hC.kept (unhide HBW))
  have HV := hide (hV.kept (unhide HBW) (unhide HBW).size)
  have HIH := hide IH
  have HOK := hide hok.2
  have HD := hide hd
  have HGS := hide (⟨((unhide HBW).cell (p := ⟨b, off + 5, none⟩) hbn0).trans g0, ((unhide HBW).cell (p := ⟨b, off + 5 + 1, none⟩) hbn0).trans g1, ((unhide HBW).cell (p := ⟨b, off + 5 + 2, none⟩) hbn0).trans g2, ((unhide HBW).cell (p := ⟨b, off + 5 + 3, none⟩) hbn0).trans g3, ((unhide HBW).cell (p := ⟨b, off + 5 + 4, none⟩) hbn0).trans g4⟩ : W.cell? ⟨b, off + 5, none⟩ = some f0 ∧ W.cell? ⟨b, off + 5 + 1, none⟩ = some f1 ∧ W.cell? ⟨b, off + 5 + 2, none⟩ = some f2 ∧ W.cell? ⟨b, off + 5 + 3, none⟩ = some f3 ∧ W.cell? ⟨b, off + 5 + 4, none⟩ = some f4)
  have hcode := typ_code (findSig m ys) e0 vars
  obtain ⟨T, hT⟩ : ∃ T, e0.typ (findSig m ys) vars = T := ⟨_, rfl⟩
  rw [hT] at HCALL hcode ⊢
  obtain ⟨t, c⟩ := T
  dsimp only at HCALL hcode ⊢
  obtain ⟨R, hR⟩ : ∃ R, (if c ≠ 0 then ((0 : Int), c) else e1.typ (findSig m ys) (vars ++ [⟨nm, t⟩])) = R := ⟨_, rfl⟩
  rw [hR]
  have HR := hide hR
  clear hR
  have N2 := hide n2
  have N4 := hide n4
  clear n2 n4
  clear hC hV hok hd IH hz hcs hr0 hr1 hr0' hr1' hT g0 g1 g2 g3 g4
  go_enter Tryz.func85, Tryz.ntmps85
  go_wp2_with (first | (rw [← hW]; clear hW; fail) | fail)
  try rw [← hW]
  try clear hW
  refine (unhide HCALL).mono ?_
  rintro r w2 ⟨rfl, hb2⟩
  have HBW2 := hide hb2
  have HB2 := hide ((unhide HBW).trans (hb2.mono (by rw [unhide HWS]; exact Nat.le_succ _)))
  have n2' := (hb2.cell (p := ⟨w.heap.size, 2, none⟩) (by show _ < _; rw [unhide HWS]; exact Nat.lt_succ_self _)).trans (unhide N2)
  have n4' := (hb2.cell (p := ⟨w.heap.size, 4, none⟩) (by show _ < _; rw [unhide HWS]; exact Nat.lt_succ_self _)).trans (unhide N4)
  have hws : w.heap.size < w2.heap.size := Nat.lt_of_lt_of_le (by rw [unhide HWS]; exact Nat.lt_succ_self _) hb2.size
  have hbw : b < w2.heap.size := Nat.lt_of_lt_of_le hbn hb2.size
  clear hb2 HCALL d0 d1 d2 d3 d4
  by_cases hc : c = 0
  case neg =>
    have hcp : 0 < c := by have := hcode.1; omega
    have HX : Hid (R = (0, c)) := hide ((unhide HR).symm.trans (if_pos hc))
    clear hcode HR
    go_wp2
    go_ret2
    refine ⟨?_, unhide HB2⟩
    rw [unhide HX]
    rfl
  subst hc
  obtain ⟨T2, hT2⟩ : ∃ T2, e1.typ (findSig m ys) (vars ++ [⟨nm, t⟩]) = T2 := ⟨_, rfl⟩
  obtain ⟨t2, c2'⟩ := T2
  have HT2 := hide hT2
  have HX : Hid (R = (t2, c2')) := hide ((unhide HR).symm.trans ((if_neg (by simp)).trans hT2))
  clear hT2 hcode HR
  -- the cells that are read
  have HSK := hide (fun (w' : World) (hb : Below w2.heap.size w2 w') => (⟨(hb.cell (p := ⟨w.heap.size, 2, none⟩) hws).trans n2', (hb.cell (p := ⟨w.heap.size, 4, none⟩) hws).trans n4', (hb.cell (p := ⟨b, off + 5, none⟩) hbw).trans (((unhide HBW2).cell (p := ⟨b, off + 5, none⟩) hbn).trans (unhide HGS).1), (hb.cell (p := ⟨b, off + 5 + 1, none⟩) hbw).trans (((unhide HBW2).cell (p := ⟨b, off + 5 + 1, none⟩) hbn).trans (unhide HGS).2.1), (hb.cell (p := ⟨b, off + 5 + 2, none⟩) hbw).trans (((unhide HBW2).cell (p := ⟨b, off + 5 + 2, none⟩) hbn).trans (unhide HGS).2.2.1), (hb.cell (p := ⟨b, off + 5 + 3, none⟩) hbw).trans (((unhide HBW2).cell (p := ⟨b, off + 5 + 3, none⟩) hbn).trans (unhide HGS).2.2.2.1), (hb.cell (p := ⟨b, off + 5 + 4, none⟩) hbw).trans (((unhide HBW2).cell (p := ⟨b, off + 5 + 4, none⟩) hbn).trans (unhide HGS).2.2.2.2)⟩ : w'.cell? ⟨w.heap.size, 2, none⟩ = some (.string nm) ∧ w'.cell? ⟨w.heap.size, 4, none⟩ = some (.slice (some ⟨b, off, none⟩) 2 kc) ∧ w'.cell? ⟨b, off + 5, none⟩ = some f0 ∧ w'.cell? ⟨b, off + 5 + 1, none⟩ = some f1 ∧ w'.cell? ⟨b, off + 5 + 2, none⟩ = some f2 ∧ w'.cell? ⟨b, off + 5 + 3, none⟩ = some f3 ∧ w'.cell? ⟨b, off + 5 + 4, none⟩ = some f4))
  -- the call behind the two appends, whatever the order
  have HCALL := hide (fun (Z : World) (z : Value) (hb : Below w2.heap.size w2 Z) (ho : Z.ownsRow w2.heap.size 37 2 z (vars.length + 1) (flatA (vars ++ [⟨nm, t⟩]))) => show ∃ (za : Option Addr) (zc : Nat), z = .slice za (vars.length + 1) zc ∧ Calls Tryz.prog 41 #[.pointer (some ⟨P, 0, none⟩), .slice za (vars.length + 1) zc, .agg #[f0, f1, f2, f3, f4]] Z fun r w' => r = .returned (.tuple #[.int .i64 t2, .int .i64 c2']) ∧ Below Z.heap.size Z w' from by
    obtain ⟨za, zc, hz, hA⟩ := args_row ho (by simp) (fun x hx => by
      rcases List.mem_append.1 hx with hx | hx
      · exact unhide HNS x hx
      · simp at hx; subst hx; exact hnz)
    have hbb : Below W.heap.size W Z := (unhide HBW2).trans (hb.mono (unhide HBW2).size)
    have hlen : (vars ++ [⟨nm, t⟩] : List TA).length = vars.length + 1 := by simp
    have := unhide HIH lo 0 _ _ Z za zc (vars ++ [⟨nm, t⟩]) (IsE.kept hbb hbb.size _ _ _ (unhide HR1)) (unhide HOK) ((unhide HC).kept hbb) hA (by rw [hlen]; have := unhide HD; omega)
    rw [hlen, unhide HT2] at this
    rw [hlen] at hz
    exact ⟨za, zc, hz, this⟩)
  have hvl : vars.length ≤ 1100000 := by have := unhide HD; omega
  have hVk : ∀ X : World, Below w2.heap.size w2 X → IsArgs (IsArg X lo2 W.heap.size) X lo2 W.heap.size a vars := fun X hb => (unhide HV).kept ((unhide HBW2).trans (hb.mono (unhide HBW2).size)) (Nat.le_refl _)
  have bX1 : Below w2.heap.size w2 (w2.alloc (.cells #[] 37)).drew := ((Below.refl _ w2).alloc (Nat.le_refl _) _).drew
  have bX2 : Below w2.heap.size w2 ((w2.alloc (.cells #[] 37)).alloc (.cells #[.string nm, .int .i64 t] 37)).drew := (((Below.refl _ w2).alloc (Nat.le_refl _) _).alloc (by simp) _).drew
  have bX3 : Below w2.heap.size w2 ((w2.alloc (.cells #[.string nm, .int .i64 t] 37)).alloc (.cells #[] 37)).drew := (((Below.refl _ w2).alloc (Nat.le_refl _) _).alloc (by simp) _).drew
  have bX4 : Below w2.heap.size w2 (w2.alloc (.cells #[.string nm, .int .i64 t] 37)).drew := ((Below.refl _ w2).alloc (Nat.le_refl _) _).drew
  obtain ⟨v1, Y1, r1, o1, y1⟩ := app_vars (w2.alloc (.cells #[] 37)).drew w2.heap.size w2.heap.size lo2 W.heap.size a cap vars (World.ownsRow_lit w2.drew #[] 0 (Nat.le_refl _) (Nat.zero_le _) rfl) (hVk _ bX1) hvl (by simp)
  obtain ⟨v2, Y2, r2, o2, y2⟩ := app_vars ((w2.alloc (.cells #[] 37)).alloc (.cells #[.string nm, .int .i64 t] 37)).drew w2.heap.size w2.heap.size lo2 W.heap.size a cap vars ((World.ownsRow_lit w2.drew #[] 0 (Nat.le_refl _) (Nat.zero_le _) rfl).alloc _) (hVk _ bX2) hvl (by simp; omega)
  obtain ⟨v3, Y3, r3, o3, y3⟩ := app_vars ((w2.alloc (.cells #[.string nm, .int .i64 t] 37)).alloc (.cells #[] 37)).drew w2.heap.size (w2.heap.size + 1) lo2 W.heap.size a cap vars (by have := World.ownsRow_lit (base := w2.heap.size) (e := 37) (size := 2) (w2.drew.alloc (.cells #[.string nm, .int .i64 t] 37)) #[] 0 (by simp) (Nat.zero_le _) rfl; rw [alloc_size] at this; exact this) (hVk _ bX3) hvl (by simp; omega)
  have hY1 : Below w2.heap.size w2 Y1 := bX1.trans ((Below.refl _ _).grown y1 (by simp) (fun q hq => by cases hq; exact Nat.le_refl _))
  have hY2 : Below w2.heap.size w2 Y2 := bX2.trans ((Below.refl _ _).grown y2 (by simp; omega) (fun q hq => by cases hq; exact Nat.le_refl _))
  have hY3 : Below w2.heap.size w2 Y3 := bX3.trans ((Below.refl _ _).grown y3 (by simp; omega) (fun q hq => by cases hq; exact Nat.le_succ _))
  have hA1 : Below w2.heap.size w2 (Y1.alloc (.cells #[.string nm, .int .i64 t] 37)) := hY1.alloc hY1.size _
  obtain ⟨z1, Z1, q1, p1, e1'⟩ := app_one (Y1.alloc (.cells #[.string nm, .int .i64 t] 37)) w2.heap.size vars.length Y1.heap.size v1 vars nm t (o1.alloc _) ⟨by rw [alloc_cell]; rfl, by rw [alloc_cell]; rfl⟩ hvl hA1.size
  obtain ⟨z2, Z2, q2, p2, e2'⟩ := app_one Y2 w2.heap.size vars.length (w2.heap.size + 1) v2 vars nm t o2 ⟨by rw [y2.cell_far ⟨w2.heap.size + 1, 0, none⟩ (by simp) (by simp)]; have := alloc_cell (w2.drew.alloc (.cells #[] 37)) #[.string nm, .int .i64 t] 37 0; rw [alloc_size] at this; exact this, by rw [y2.cell_far ⟨w2.heap.size + 1, 1, none⟩ (by simp) (by simp)]; have := alloc_cell (w2.drew.alloc (.cells #[] 37)) #[.string nm, .int .i64 t] 37 1; rw [alloc_size] at this; exact this⟩ hvl hY2.size
  obtain ⟨z3, Z3, q3, p3, e3'⟩ := app_one Y3 w2.heap.size vars.length w2.heap.size v3 vars nm t o3 ⟨by rw [y3.cell_far ⟨w2.heap.size, 0, none⟩ (by simp; omega) (by simp)]; exact (((Below.refl (w2.heap.size + 1) (w2.drew.alloc (.cells #[.string nm, .int .i64 t] 37))).alloc (by simp) _).cell (p := ⟨w2.heap.size, 0, none⟩) (Nat.lt_succ_self _)).trans (alloc_cell w2.drew _ _ _), by rw [y3.cell_far ⟨w2.heap.size, 1, none⟩ (by simp; omega) (by simp)]; exact (((Below.refl (w2.heap.size + 1) (w2.drew.alloc (.cells #[.string nm, .int .i64 t] 37))).alloc (by simp) _).cell (p := ⟨w2.heap.size, 1, none⟩) (Nat.lt_succ_self _)).trans (alloc_cell w2.drew _ _ _)⟩ hvl hY3.size
  have hZ1 := hA1.trans e1'
  have hZ2 := hY2.trans e2'
  have hZ3 := hY3.trans e3'
  obtain ⟨za1, zc1, rfl, k1⟩ := unhide HCALL Z1 z1 hZ1 p1
  obtain ⟨za2, zc2, rfl, k2⟩ := unhide HCALL Z2 z2 hZ2 p2
  obtain ⟨za3, zc3, rfl, k3⟩ := unhide HCALL Z3 z3 hZ3 p3
  have K1 := hide k1
  have K2 := hide k2
  have K3 := hide k3
  clear k1 k2 k3 p1 p2 p3 o1 o2 o3 y1 y2 y3 e1' e2' e3' hVk
  go_wp2
  go_region_held3 (fun w' => w'.cell? ⟨w.heap.size, 2, none⟩ = some (.string nm) ∧ w'.cell? ⟨w.heap.size, 4, none⟩ = some (.slice (some ⟨b, off, none⟩) 2 kc) ∧ w'.cell? ⟨b, off + 5, none⟩ = some f0 ∧ w'.cell? ⟨b, off + 5 + 1, none⟩ = some f1 ∧ w'.cell? ⟨b, off + 5 + 2, none⟩ = some f2 ∧ w'.cell? ⟨b, off + 5 + 3, none⟩ = some f3 ∧ w'.cell? ⟨b, off + 5 + 4, none⟩ = some f4)
    (exact unhide HSK _ (by first | with_reducible assumption | with_reducible exact Below.refl _ _ | with_reducible exact (Below.refl _ _).drew))
    (first | (refine step_run rfl (.tmp 24) (.tmp 25) 29 rfl rfl (.slice (some ⟨w2.heap.size, 0, none⟩) 0 0) (.slice a vars.length cap) rfl rfl v1 Y1 (by with_reducible exact r1) ?_) | (refine step_run rfl (.tmp 24) (.tmp 25) 29 rfl rfl (.slice (some ⟨w2.heap.size, 0, none⟩) 0 0) (.slice a vars.length cap) rfl rfl v2 Y2 (by with_reducible exact r2) ?_) | (refine step_run rfl (.tmp 24) (.tmp 25) 29 rfl rfl (.slice (some ⟨w2.heap.size + 1, 0, none⟩) 0 0) (.slice a vars.length cap) rfl rfl v3 Y3 (by with_reducible exact r3) ?_) | (refine step_run rfl (.tmp 26) (.tmp 31) 29 rfl rfl v1 (.slice (some ⟨Y1.heap.size, 0, none⟩) 1 1) rfl rfl (.slice za1 (vars.length + 1) zc1) Z1 (by with_reducible exact q1) ?_) | (refine step_run rfl (.tmp 26) (.tmp 31) 29 rfl rfl v2 (.slice (some ⟨w2.heap.size + 1, 0, none⟩) 1 1) rfl rfl (.slice za2 (vars.length + 1) zc2) Z2 (by with_reducible exact q2) ?_) | (refine step_run rfl (.tmp 26) (.tmp 31) 29 rfl rfl v3 (.slice (some ⟨w2.heap.size, 0, none⟩) 1 1) rfl rfl (.slice za3 (vars.length + 1) zc3) Z3 (by with_reducible exact q3) ?_) | (go_at_call 41; refine Calls.mono (by with_reducible exact unhide K1) ?_; rintro r w5 ⟨rfl, hb5⟩; have kW := hZ1.trans (hb5.mono hZ1.size)) | (go_at_call 41; refine Calls.mono (by with_reducible exact unhide K2) ?_; rintro r w5 ⟨rfl, hb5⟩; have kW := hZ2.trans (hb5.mono hZ2.size)) | (go_at_call 41; refine Calls.mono (by with_reducible exact unhide K3) ?_; rintro r w5 ⟨rfl, hb5⟩; have kW := hZ3.trans (hb5.mono hZ3.size)))
  all_goals
    have HBF := hide ((unhide HB2).trans (kW.mono (unhide HB2).size))
    clear r1 r2 r3 q1 q2 q3
    go_wp2
    go_ret2
    refine ⟨?_, unhide HBF⟩
    rw [unhide HX]
    rfl
end Go.Proofs.YtgmohnbjfemebaaGreatDoor

namespace Go.Proofs.YtgmohnbjfemebaaGreatDoor
open Go.RowKit Go.PlainAid

theorem kidsT_len (F : Fnd) (b : Bool) (nm : ByteArray) : ∀ (l : List TE) (vars : List TA), (kidsT F b nm l vars).2.2 = 0 → (kidsT F b nm l vars).1.length = l.length
  | [], vars => by rw [kidsT]; simp
  | e :: t, vars => by
    rw [kidsT]
    split
    · intro h; rename_i g; exact absurd h g
    · intro h; simpa using kidsT_len F b nm t _ h

set_option maxRecDepth 100000 in
set_option maxHeartbeats 4000000 in
theorem exprS_4 (P : Nat) (m : TM) (ys : List TY) (h : Nat) (IH : ExprS P m ys h) (hF : Fits m ys) (lo lo2 : Nat) (mm : Int) (nm md : ByteArray) (kids : List TE) (x : Value) (w : World) (a : Option Addr) (cap : Nat) (vars : List TA)
    (hE : IsE w lo w.heap.size (h + 1) x (.node 4 mm nm md kids)) (hnode : nodeB 4 mm nm md kids.length = true) (hok : okL kids = true) (hC : Ctx w P m ys) (hV : IsArgs (IsArg w lo2 w.heap.size) w lo2 w.heap.size a vars) (hd : vars.length + deepL kids ≤ 1100000) :
    Calls Tryz.prog 41 #[.pointer (some ⟨P, 0, none⟩), .slice a vars.length cap, x] w fun r w' => r = .returned (.tuple #[.int .i64 ((TE.node 4 mm nm md kids).typ (findSig m ys) vars).1, .int .i64 ((TE.node 4 mm nm md kids).typ (findSig m ys) vars).2]) ∧ Below w.heap.size w w' := by
  have hn := node_small hnode
  have HKS := hide (fun (W' : World) (hb : Below w.heap.size w W') => kidsS_of P m ys h IH lo lo2 4 mm nm md kids x W' a cap vars (IsE.kept hb hb.size _ _ _ hE) hok hn (hC.kept hb) (hV.kept hb hb.size) hd)
  have HLEN := hide (kidsT_len (findSig m ys) false nm kids vars)
  have HCD := hide (kidsT_code (findSig m ys) false nm kids vars)
  obtain ⟨R, hR⟩ : ∃ R, kidsT (findSig m ys) false nm kids vars = R := ⟨_, rfl⟩
  rw [hR] at HKS HLEN HCD
  obtain ⟨ps, vs, c⟩ := R
  dsimp only at HKS HLEN HCD
  have HBAD := hide (fun (hc : c ≠ 0) => typ_bad (k := 4) (m := mm) (md := md) (show kidsT (findSig m ys) (decide ((4 : Int) = 6)) nm kids vars = (ps, vs, c) from hR) hc)
  have HDONE := hide (fun (hc : c = 0) => typ_done (k := 4) (m := mm) (md := md) (show kidsT (findSig m ys) (decide ((4 : Int) = 6)) nm kids vars = (ps, vs, 0) from hc ▸ hR))
  have HN := hide hn
  have HNODE := hide hnode
  obtain ⟨T, hT⟩ : ∃ T, (TE.node 4 mm nm md kids).typ (findSig m ys) vars = T := ⟨_, rfl⟩
  rw [hT] at HBAD HDONE ⊢
  obtain ⟨ka, kc, rfl, hz, hk⟩ := hE
  have HC := hide hC
  have HF := hide hF
  obtain ⟨W, hW⟩ : ∃ W, W = w.alloc (.cells #[.int .i64 4, .int .i64 mm, .string nm, .string md, .slice ka kids.length kc] 31) := ⟨_, rfl⟩
  have HBW : Hid (Below w.heap.size w W) := hide (by rw [hW]; exact (Below.refl _ _).alloc (Nat.le_refl _) _)
  have HWS : Hid (W.heap.size = w.heap.size + 1) := hide (by rw [hW]; simp)
  have HN0 : Hid (Blk W w.heap.size [.int .i64 4, .int .i64 mm, .string nm, .string md, .slice ka kids.length kc]) := hide (by rw [hW]; exact Blk.new w _ _)
  have k0 := (unhide HN0).cellAt (i := 0) rfl
  have k1 := (unhide HN0).cellAt (i := 1) rfl
  have k2 := (unhide HN0).cellAt (i := 2) rfl
  have k3 := (unhide HN0).cellAt (i := 3) rfl
  have k4 := (unhide HN0).cellAt (i := 4) rfl
  clear hk hC hV hok hd IH hz hn hnode hR hT hF
  go_enter Tryz.func41, Tryz.ntmps41
  go_wp2_with (first | (rw [← hW]; clear hW; fail) | fail)
  rw [← hW]
  clear hW
  refine (unhide HKS _ (unhide HBW)).mono ?_
  rintro r w2 ⟨a', L, cap', rfl, hpost, hb2⟩
  have HB2 := hide ((unhide HBW).trans (hb2.mono (by rw [unhide HWS]; exact Nat.le_succ _)))
  have HBW2 := hide hb2
  have k0' := ((unhide HN0).below (unhide HBW2) (by rw [unhide HWS]; exact Nat.lt_succ_self _)).cellAt (i := 0) rfl
  have k2' := ((unhide HN0).below (unhide HBW2) (by rw [unhide HWS]; exact Nat.lt_succ_self _)).cellAt (i := 2) rfl
  have k3' := ((unhide HN0).below (unhide HBW2) (by rw [unhide HWS]; exact Nat.lt_succ_self _)).cellAt (i := 3) rfl
  have HP := hide hpost
  clear hpost hb2 HKS k0 k1 k2 k3 k4 HN0
  by_cases hc : c = 0
  case neg =>
    have hcp : 0 < c := by have := unhide HCD; omega
    have HX := hide (unhide HBAD hc)
    clear HBAD HDONE HCD HLEN HP hc
    go_wp2
    go_ret2
    refine ⟨?_, unhide HB2⟩
    rw [unhide HX]
    rfl
  have HX := hide (unhide HDONE hc)
  obtain ⟨hL, hI⟩ := unhide HP hc
  have hlen := unhide HLEN hc
  subst hc
  subst hL
  have HI := hide hI
  have hp8 : ps.length ≤ 8 := by rw [hlen]; exact unhide HN
  have hp8' : ps.length ≤ 1048576 := by omega
  have HLN := hide hlen
  clear HBAD HDONE HCD HLEN HP hI hlen HN
  have HAR := hide (node_kids (unhide HNODE)).2.2.2.1
  have HPR := hide (TypePrimS_any nm)
  obtain ⟨pn, hpn⟩ : ∃ pn, primN nm.toList = pn := ⟨_, rfl⟩
  have HRU : Hid (ruleT (findSig m ys) 4 nm md vs ps = applyT (tpArgs pn) (tpRes pn) ps) := hide (by rw [← hpn]; rfl)
  rw [hpn] at HPR
  clear hpn
  have htl : (tpArgs pn).length ≤ 1048576 := Nat.le_trans (tpArgs_len pn) (by omega)
  go_wp2_with fail
  refine (unhide HPR w2).mono ?_
  rintro r w3 ⟨v, rfl, ho, hb3⟩
  have HB3 := hide ((unhide HB2).trans (hb3.mono (unhide HB2).size))
  obtain ⟨a2, cap2, rfl, hi2⟩ := ho.ints
  have HI3 := hide ((unhide HI).kept hb3 hb3.size)
  have HI2 := hide hi2
  clear ho hi2 hb3 k0' k2' k3'
  go_wp2_with fail
  refine (l4Apply_any _ _ _ _ _ _ (tpArgs pn) ps (tpRes pn) w3 (unhide HI2) (unhide HI3) htl).mono ?_
  rintro r w4 ⟨rfl, hb4⟩
  have HB4 := hide ((unhide HB3).trans (hb4.mono (unhide HB3).size))
  have HX2 := hide ((unhide HX).trans (unhide HRU))
  obtain ⟨A, hA⟩ : ∃ A, applyT (tpArgs pn) (tpRes pn) ps = A := ⟨_, rfl⟩
  rw [hA] at HX2 ⊢
  obtain ⟨t1, t2⟩ := A
  clear hb4 hA HX HRU
  go_wp2
  go_ret2
  refine ⟨?_, unhide HB4⟩
  rw [unhide HX2]
  rfl

set_option maxRecDepth 100000 in
set_option maxHeartbeats 4000000 in
theorem exprS_8 (P : Nat) (m : TM) (ys : List TY) (h : Nat) (IH : ExprS P m ys h) (hF : Fits m ys) (lo lo2 : Nat) (mm : Int) (nm md : ByteArray) (kids : List TE) (x : Value) (w : World) (a : Option Addr) (cap : Nat) (vars : List TA)
    (hE : IsE w lo w.heap.size (h + 1) x (.node 8 mm nm md kids)) (hnode : nodeB 8 mm nm md kids.length = true) (hok : okL kids = true) (hC : Ctx w P m ys) (hV : IsArgs (IsArg w lo2 w.heap.size) w lo2 w.heap.size a vars) (hd : vars.length + deepL kids ≤ 1100000) :
    Calls Tryz.prog 41 #[.pointer (some ⟨P, 0, none⟩), .slice a vars.length cap, x] w fun r w' => r = .returned (.tuple #[.int .i64 ((TE.node 8 mm nm md kids).typ (findSig m ys) vars).1, .int .i64 ((TE.node 8 mm nm md kids).typ (findSig m ys) vars).2]) ∧ Below w.heap.size w w' := by
  have hn := node_small hnode
  have HKS := hide (fun (W' : World) (hb : Below w.heap.size w W') => kidsS_of P m ys h IH lo lo2 8 mm nm md kids x W' a cap vars (IsE.kept hb hb.size _ _ _ hE) hok hn (hC.kept hb) (hV.kept hb hb.size) hd)
  have HLEN := hide (kidsT_len (findSig m ys) false nm kids vars)
  have HCD := hide (kidsT_code (findSig m ys) false nm kids vars)
  obtain ⟨R, hR⟩ : ∃ R, kidsT (findSig m ys) false nm kids vars = R := ⟨_, rfl⟩
  rw [hR] at HKS HLEN HCD
  obtain ⟨ps, vs, c⟩ := R
  dsimp only at HKS HLEN HCD
  have HBAD := hide (fun (hc : c ≠ 0) => typ_bad (k := 8) (m := mm) (md := md) (show kidsT (findSig m ys) (decide ((8 : Int) = 6)) nm kids vars = (ps, vs, c) from hR) hc)
  have HDONE := hide (fun (hc : c = 0) => typ_done (k := 8) (m := mm) (md := md) (show kidsT (findSig m ys) (decide ((8 : Int) = 6)) nm kids vars = (ps, vs, 0) from hc ▸ hR))
  have HN := hide hn
  have HNODE := hide hnode
  obtain ⟨T, hT⟩ : ∃ T, (TE.node 8 mm nm md kids).typ (findSig m ys) vars = T := ⟨_, rfl⟩
  rw [hT] at HBAD HDONE ⊢
  obtain ⟨ka, kc, rfl, hz, hk⟩ := hE
  have HC := hide hC
  have HF := hide hF
  obtain ⟨W, hW⟩ : ∃ W, W = w.alloc (.cells #[.int .i64 8, .int .i64 mm, .string nm, .string md, .slice ka kids.length kc] 31) := ⟨_, rfl⟩
  have HBW : Hid (Below w.heap.size w W) := hide (by rw [hW]; exact (Below.refl _ _).alloc (Nat.le_refl _) _)
  have HWS : Hid (W.heap.size = w.heap.size + 1) := hide (by rw [hW]; simp)
  have HN0 : Hid (Blk W w.heap.size [.int .i64 8, .int .i64 mm, .string nm, .string md, .slice ka kids.length kc]) := hide (by rw [hW]; exact Blk.new w _ _)
  have k0 := (unhide HN0).cellAt (i := 0) rfl
  have k1 := (unhide HN0).cellAt (i := 1) rfl
  have k2 := (unhide HN0).cellAt (i := 2) rfl
  have k3 := (unhide HN0).cellAt (i := 3) rfl
  have k4 := (unhide HN0).cellAt (i := 4) rfl
  clear hk hC hV hok hd IH hz hn hnode hR hT hF
  go_enter Tryz.func41, Tryz.ntmps41
  go_wp2_with (first | (rw [← hW]; clear hW; fail) | fail)
  rw [← hW]
  clear hW
  refine (unhide HKS _ (unhide HBW)).mono ?_
  rintro r w2 ⟨a', L, cap', rfl, hpost, hb2⟩
  have HB2 := hide ((unhide HBW).trans (hb2.mono (by rw [unhide HWS]; exact Nat.le_succ _)))
  have HBW2 := hide hb2
  have k0' := ((unhide HN0).below (unhide HBW2) (by rw [unhide HWS]; exact Nat.lt_succ_self _)).cellAt (i := 0) rfl
  have k2' := ((unhide HN0).below (unhide HBW2) (by rw [unhide HWS]; exact Nat.lt_succ_self _)).cellAt (i := 2) rfl
  have k3' := ((unhide HN0).below (unhide HBW2) (by rw [unhide HWS]; exact Nat.lt_succ_self _)).cellAt (i := 3) rfl
  have HP := hide hpost
  clear hpost hb2 HKS k0 k1 k2 k3 k4 HN0
  by_cases hc : c = 0
  case neg =>
    have hcp : 0 < c := by have := unhide HCD; omega
    have HX := hide (unhide HBAD hc)
    clear HBAD HDONE HCD HLEN HP hc
    go_wp2
    go_ret2
    refine ⟨?_, unhide HB2⟩
    rw [unhide HX]
    rfl
  have HX := hide (unhide HDONE hc)
  obtain ⟨hL, hI⟩ := unhide HP hc
  have hlen := unhide HLEN hc
  subst hc
  subst hL
  have HI := hide hI
  have hp8 : ps.length ≤ 8 := by rw [hlen]; exact unhide HN
  have hp8' : ps.length ≤ 1048576 := by omega
  have HLN := hide hlen
  clear HBAD HDONE HCD HLEN HP hI hlen HN
  have HRU : Hid (ruleT (findSig m ys) 8 nm md vs ps = listT ps) := hide rfl
  have hml : ps.length ≤ maxLen := by unfold maxLen; omega
  go_wp2_with fail
  refine (l4List_any _ _ _ ps w2 (unhide HI) hml).mono ?_
  rintro r w4 ⟨rfl, rfl⟩
  have HX2 := hide ((unhide HX).trans (unhide HRU))
  obtain ⟨A, hA⟩ : ∃ A, listT ps = A := ⟨_, rfl⟩
  rw [hA] at HX2 ⊢
  obtain ⟨t1, t2⟩ := A
  clear hA HX HRU
  go_wp2
  go_ret2
  refine ⟨?_, unhide HB2⟩
  rw [unhide HX2]
  rfl
end Go.Proofs.YtgmohnbjfemebaaGreatDoor

namespace Go.Proofs.YtgmohnbjfemebaaGreatDoor
open Go.RowKit Go.PlainAid

set_option maxRecDepth 100000 in
set_option maxHeartbeats 4000000 in
theorem exprS_5 (P : Nat) (m : TM) (ys : List TY) (h : Nat) (IH : ExprS P m ys h) (hF : Fits m ys) (lo lo2 : Nat) (mm : Int) (nm md : ByteArray) (kids : List TE) (x : Value) (w : World) (a : Option Addr) (cap : Nat) (vars : List TA)
    (hE : IsE w lo w.heap.size (h + 1) x (.node 5 mm nm md kids)) (hnode : nodeB 5 mm nm md kids.length = true) (hok : okL kids = true) (hC : Ctx w P m ys) (hV : IsArgs (IsArg w lo2 w.heap.size) w lo2 w.heap.size a vars) (hd : vars.length + deepL kids ≤ 1100000) :
    Calls Tryz.prog 41 #[.pointer (some ⟨P, 0, none⟩), .slice a vars.length cap, x] w fun r w' => r = .returned (.tuple #[.int .i64 ((TE.node 5 mm nm md kids).typ (findSig m ys) vars).1, .int .i64 ((TE.node 5 mm nm md kids).typ (findSig m ys) vars).2]) ∧ Below w.heap.size w w' := by
  have hn := node_small hnode
  have HKS := hide (fun (W' : World) (hb : Below w.heap.size w W') => kidsS_of P m ys h IH lo lo2 5 mm nm md kids x W' a cap vars (IsE.kept hb hb.size _ _ _ hE) hok hn (hC.kept hb) (hV.kept hb hb.size) hd)
  have HLEN := hide (kidsT_len (findSig m ys) false nm kids vars)
  have HCD := hide (kidsT_code (findSig m ys) false nm kids vars)
  obtain ⟨R, hR⟩ : ∃ R, kidsT (findSig m ys) false nm kids vars = R := ⟨_, rfl⟩
  rw [hR] at HKS HLEN HCD
  obtain ⟨ps, vs, c⟩ := R
  dsimp only at HKS HLEN HCD
  have HBAD := hide (fun (hc : c ≠ 0) => typ_bad (k := 5) (m := mm) (md := md) (show kidsT (findSig m ys) (decide ((5 : Int) = 6)) nm kids vars = (ps, vs, c) from hR) hc)
  have HDONE := hide (fun (hc : c = 0) => typ_done (k := 5) (m := mm) (md := md) (show kidsT (findSig m ys) (decide ((5 : Int) = 6)) nm kids vars = (ps, vs, 0) from hc ▸ hR))
  have HN := hide hn
  have HNODE := hide hnode
  obtain ⟨T, hT⟩ : ∃ T, (TE.node 5 mm nm md kids).typ (findSig m ys) vars = T := ⟨_, rfl⟩
  rw [hT] at HBAD HDONE ⊢
  obtain ⟨ka, kc, rfl, hz, hk⟩ := hE
  have HC := hide hC
  have HF := hide hF
  obtain ⟨W, hW⟩ : ∃ W, W = w.alloc (.cells #[.int .i64 5, .int .i64 mm, .string nm, .string md, .slice ka kids.length kc] 31) := ⟨_, rfl⟩
  have HBW : Hid (Below w.heap.size w W) := hide (by rw [hW]; exact (Below.refl _ _).alloc (Nat.le_refl _) _)
  have HWS : Hid (W.heap.size = w.heap.size + 1) := hide (by rw [hW]; simp)
  have HN0 : Hid (Blk W w.heap.size [.int .i64 5, .int .i64 mm, .string nm, .string md, .slice ka kids.length kc]) := hide (by rw [hW]; exact Blk.new w _ _)
  have k0 := (unhide HN0).cellAt (i := 0) rfl
  have k1 := (unhide HN0).cellAt (i := 1) rfl
  have k2 := (unhide HN0).cellAt (i := 2) rfl
  have k3 := (unhide HN0).cellAt (i := 3) rfl
  have k4 := (unhide HN0).cellAt (i := 4) rfl
  clear hk hC hV hok hd IH hz hn hnode hR hT hF
  go_enter Tryz.func41, Tryz.ntmps41
  go_wp2_with (first | (rw [← hW]; clear hW; fail) | fail)
  rw [← hW]
  clear hW
  refine (unhide HKS _ (unhide HBW)).mono ?_
  rintro r w2 ⟨a', L, cap', rfl, hpost, hb2⟩
  have HB2 := hide ((unhide HBW).trans (hb2.mono (by rw [unhide HWS]; exact Nat.le_succ _)))
  have HBW2 := hide hb2
  have k0' := ((unhide HN0).below (unhide HBW2) (by rw [unhide HWS]; exact Nat.lt_succ_self _)).cellAt (i := 0) rfl
  have k2' := ((unhide HN0).below (unhide HBW2) (by rw [unhide HWS]; exact Nat.lt_succ_self _)).cellAt (i := 2) rfl
  have k3' := ((unhide HN0).below (unhide HBW2) (by rw [unhide HWS]; exact Nat.lt_succ_self _)).cellAt (i := 3) rfl
  have HP := hide hpost
  clear hpost hb2 HKS k0 k1 k2 k3 k4 HN0
  by_cases hc : c = 0
  case neg =>
    have hcp : 0 < c := by have := unhide HCD; omega
    have HX := hide (unhide HBAD hc)
    clear HBAD HDONE HCD HLEN HP hc
    go_wp2
    go_ret2
    refine ⟨?_, unhide HB2⟩
    rw [unhide HX]
    rfl
  have HX := hide (unhide HDONE hc)
  obtain ⟨hL, hI⟩ := unhide HP hc
  have hlen := unhide HLEN hc
  subst hc
  subst hL
  have HI := hide hI
  have hp8 : ps.length ≤ 8 := by rw [hlen]; exact unhide HN
  have hp8' : ps.length ≤ 1048576 := by omega
  have HLN := hide hlen
  clear HBAD HDONE HCD HLEN HP hI hlen HN
  have hk3 : ps.length = 3 := (unhide HLN).trans ((node_kids (unhide HNODE)).2.2.2.2.1 rfl)
  obtain ⟨p0, p1, p2, rfl⟩ : ∃ p0 p1 p2, ps = [p0, p1, p2] := by
    match ps, hk3 with
    | [p0, p1, p2], _ => exact ⟨p0, p1, p2, rfl⟩
  have HRU : Hid (ruleT (findSig m ys) 5 nm md vs [p0, p1, p2] = applyT [2, p1, p1] p1 [p0, p1, p2]) := hide rfl
  have HAP := hide (fun (W' : World) (hb : Below w2.heap.size w2 W') (hnb : Blk W' w2.heap.size [.int .i64 2, .int .i64 p1, .int .i64 p1]) (hs : w2.heap.size < W'.heap.size) => l4Apply_any w2.heap.size _ (some ⟨w2.heap.size, 0, none⟩) a' 3 cap' [2, p1, p1] [p0, p1, p2] p1 W' (.inr ⟨w2.heap.size, 0, rfl, Nat.le_refl _, hs, fun j hj => by
    rw [Nat.zero_add]
    refine hnb.cellAt ?_
    match j, hj with
    | 0, _ => rfl
    | 1, _ => rfl
    | 2, _ => rfl⟩) ((unhide HI).kept hb hb.size) (by simp))
  rcases unhide HI with hq | ⟨b, off, rfl, hbl, hbn, hcs⟩
  · cases hq
  have hc1 : w2.cell? ⟨b, off + 1, none⟩ = some (.int .i64 p1) := hcs 1 (by simp)
  have HSK := hide (fun (w' : World) (hb : Below w2.heap.size w2 w') => (hb.cell (p := ⟨b, off + 1, none⟩) hbn).trans hc1)
  clear hcs HI hk3 hp8 hp8' HLN HNODE
  simp only [List.length_cons, List.length_nil] at HAP ⊢
  go_wp2
  go_region_held3 (fun w' => w'.cell? ⟨b, off + 1, none⟩ = some (.int .i64 p1))
    (exact unhide HSK _ (by first | exact Below.refl _ _ | exact (Below.refl _ _).drew | exact (Below.refl _ w2).drew.alloc (Nat.le_refl _) _ | exact ((Below.refl _ w2).alloc (Nat.le_refl _) _).drew | exact kW))
    (first | (go_at_call 88; refine (unhide HAP _ (by first | exact (Below.refl _ w2).drew.alloc (Nat.le_refl _) _ | exact ((Below.refl _ w2).alloc (Nat.le_refl _) _).drew) (by first | exact Blk.new w2.drew [.int .i64 2, .int .i64 p1, .int .i64 p1] 3 | exact Blk.new w2 [.int .i64 2, .int .i64 p1, .int .i64 p1] 3) (by simp)).mono ?_; rintro r w4 ⟨rfl, hb4⟩; have kW : Below w2.heap.size w2 w4 := ((Below.refl _ w2).drew.alloc (Nat.le_refl _) _).trans (hb4.mono (by simp))))
  all_goals
    have HB4 := hide ((unhide HB2).trans (kW.mono (unhide HB2).size))
    have HX2 := hide ((unhide HX).trans (unhide HRU))
    obtain ⟨A, hA⟩ : ∃ A, applyT [2, p1, p1] p1 [p0, p1, p2] = A := ⟨_, rfl⟩
    rw [hA] at HX2
    obtain ⟨t1, t2⟩ := A
    go_wp2
    go_ret2
    refine ⟨?_, unhide HB4⟩
    rw [unhide HX2, hA]
    rfl
end Go.Proofs.YtgmohnbjfemebaaGreatDoor

namespace Go.Proofs.YtgmohnbjfemebaaGreatDoor
open Go.RowKit Go.PlainAid

set_option maxRecDepth 100000 in
set_option maxHeartbeats 4000000 in
theorem exprS_7 (P : Nat) (m : TM) (ys : List TY) (h : Nat) (IH : ExprS P m ys h) (hF : Fits m ys) (lo lo2 : Nat) (mm : Int) (nm md : ByteArray) (kids : List TE) (x : Value) (w : World) (a : Option Addr) (cap : Nat) (vars : List TA)
    (hE : IsE w lo w.heap.size (h + 1) x (.node 7 mm nm md kids)) (hnode : nodeB 7 mm nm md kids.length = true) (hok : okL kids = true) (hC : Ctx w P m ys) (hV : IsArgs (IsArg w lo2 w.heap.size) w lo2 w.heap.size a vars) (hd : vars.length + deepL kids ≤ 1100000) :
    Calls Tryz.prog 41 #[.pointer (some ⟨P, 0, none⟩), .slice a vars.length cap, x] w fun r w' => r = .returned (.tuple #[.int .i64 ((TE.node 7 mm nm md kids).typ (findSig m ys) vars).1, .int .i64 ((TE.node 7 mm nm md kids).typ (findSig m ys) vars).2]) ∧ Below w.heap.size w w' := by
  have hn := node_small hnode
  have HKS := hide (fun (W' : World) (hb : Below w.heap.size w W') => kidsS_of P m ys h IH lo lo2 7 mm nm md kids x W' a cap vars (IsE.kept hb hb.size _ _ _ hE) hok hn (hC.kept hb) (hV.kept hb hb.size) hd)
  have HLEN := hide (kidsT_len (findSig m ys) false nm kids vars)
  have HCD := hide (kidsT_code (findSig m ys) false nm kids vars)
  obtain ⟨R, hR⟩ : ∃ R, kidsT (findSig m ys) false nm kids vars = R := ⟨_, rfl⟩
  rw [hR] at HKS HLEN HCD
  obtain ⟨ps, vs, c⟩ := R
  dsimp only at HKS HLEN HCD
  have HBAD := hide (fun (hc : c ≠ 0) => typ_bad (k := 7) (m := mm) (md := md) (show kidsT (findSig m ys) (decide ((7 : Int) = 6)) nm kids vars = (ps, vs, c) from hR) hc)
  have HDONE := hide (fun (hc : c = 0) => typ_done (k := 7) (m := mm) (md := md) (show kidsT (findSig m ys) (decide ((7 : Int) = 6)) nm kids vars = (ps, vs, 0) from hc ▸ hR))
  have HN := hide hn
  have HNODE := hide hnode
  obtain ⟨T, hT⟩ : ∃ T, (TE.node 7 mm nm md kids).typ (findSig m ys) vars = T := ⟨_, rfl⟩
  rw [hT] at HBAD HDONE ⊢
  obtain ⟨ka, kc, rfl, hz, hk⟩ := hE
  have HC := hide hC
  have HF := hide hF
  obtain ⟨W, hW⟩ : ∃ W, W = w.alloc (.cells #[.int .i64 7, .int .i64 mm, .string nm, .string md, .slice ka kids.length kc] 31) := ⟨_, rfl⟩
  have HBW : Hid (Below w.heap.size w W) := hide (by rw [hW]; exact (Below.refl _ _).alloc (Nat.le_refl _) _)
  have HWS : Hid (W.heap.size = w.heap.size + 1) := hide (by rw [hW]; simp)
  have HN0 : Hid (Blk W w.heap.size [.int .i64 7, .int .i64 mm, .string nm, .string md, .slice ka kids.length kc]) := hide (by rw [hW]; exact Blk.new w _ _)
  have k0 := (unhide HN0).cellAt (i := 0) rfl
  have k1 := (unhide HN0).cellAt (i := 1) rfl
  have k2 := (unhide HN0).cellAt (i := 2) rfl
  have k3 := (unhide HN0).cellAt (i := 3) rfl
  have k4 := (unhide HN0).cellAt (i := 4) rfl
  clear hk hC hV hok hd IH hz hn hnode hR hT hF
  go_enter Tryz.func41, Tryz.ntmps41
  go_wp2_with (first | (rw [← hW]; clear hW; fail) | fail)
  rw [← hW]
  clear hW
  refine (unhide HKS _ (unhide HBW)).mono ?_
  rintro r w2 ⟨a', L, cap', rfl, hpost, hb2⟩
  have HB2 := hide ((unhide HBW).trans (hb2.mono (by rw [unhide HWS]; exact Nat.le_succ _)))
  have HBW2 := hide hb2
  have k0' := ((unhide HN0).below (unhide HBW2) (by rw [unhide HWS]; exact Nat.lt_succ_self _)).cellAt (i := 0) rfl
  have k2' := ((unhide HN0).below (unhide HBW2) (by rw [unhide HWS]; exact Nat.lt_succ_self _)).cellAt (i := 2) rfl
  have k3' := ((unhide HN0).below (unhide HBW2) (by rw [unhide HWS]; exact Nat.lt_succ_self _)).cellAt (i := 3) rfl
  have HP := hide hpost
  clear hpost hb2 HKS k0 k1 k2 k3 k4 HN0
  by_cases hc : c = 0
  case neg =>
    have hcp : 0 < c := by have := unhide HCD; omega
    have HX := hide (unhide HBAD hc)
    clear HBAD HDONE HCD HLEN HP hc
    go_wp2
    go_ret2
    refine ⟨?_, unhide HB2⟩
    rw [unhide HX]
    rfl
  have HX := hide (unhide HDONE hc)
  obtain ⟨hL, hI⟩ := unhide HP hc
  have hlen := unhide HLEN hc
  subst hc
  subst hL
  have HI := hide hI
  have hp8 : ps.length ≤ 8 := by rw [hlen]; exact unhide HN
  have hp8' : ps.length ≤ 1048576 := by omega
  have HLN := hide hlen
  clear HBAD HDONE HCD HLEN HP hI hlen HN
  obtain ⟨hP, c0, c1, c2, fa, fcap, lom, hh, lom2, d0, d1, d2, d3, hM, hY⟩ := (unhide HC).kept (unhide HB2)
  have HSM := hide (fun s => sig_small (md := md) (nm := nm) (s := s) (unhide HF))
  have HT := hide (fun (W' : World) (hb : Below w2.heap.size w2 W') => TypeFindS_all lom hh lom2 (.agg #[c0, c1, c2]) m fa fcap ys md nm W' (IsMod.kept hh hb hb.size _ _ hM) (hY.kept hb hb.size) (unhide HF))
  have hw2 : w.heap.size < w2.heap.size := Nat.lt_of_lt_of_le (by rw [unhide HWS]; exact Nat.lt_succ_self _) (unhide HBW2).size
  have HSK := hide (fun (w' : World) (hb : Below w2.heap.size w2 w') => (⟨(hb.cell (p := ⟨P, 0, none⟩) hP).trans d0, (hb.cell (p := ⟨P, 1, none⟩) hP).trans d1, (hb.cell (p := ⟨P, 2, none⟩) hP).trans d2, (hb.cell (p := ⟨P, 3, none⟩) hP).trans d3, (hb.cell (p := ⟨w.heap.size, 2, none⟩) hw2).trans k2', (hb.cell (p := ⟨w.heap.size, 3, none⟩) hw2).trans k3'⟩ : w'.cell? ⟨P, 0, none⟩ = some c0 ∧ w'.cell? ⟨P, 1, none⟩ = some c1 ∧ w'.cell? ⟨P, 2, none⟩ = some c2 ∧ w'.cell? ⟨P, 3, none⟩ = some (.slice fa ys.length fcap) ∧ w'.cell? ⟨w.heap.size, 2, none⟩ = some (.string nm) ∧ w'.cell? ⟨w.heap.size, 3, none⟩ = some (.string md)))
  have HRU : Hid (ruleT (findSig m ys) 7 nm md vs ps = callT (findSig m ys md nm) ps) := hide rfl
  have HX2 := hide ((unhide HX).trans (unhide HRU))
  obtain ⟨o, ho⟩ : ∃ o, findSig m ys md nm = o := ⟨_, rfl⟩
  rw [ho] at HT HSM HX2
  obtain ⟨S, hS⟩ : ∃ S, o.getD zS = S := ⟨_, rfl⟩
  obtain ⟨kn, hkn⟩ : ∃ kn, o.isSome = kn := ⟨_, rfl⟩
  simp only [FPost, hS, hkn] at HT
  obtain ⟨sn, sg, st⟩ := S
  dsimp only at HT
  have HS := hide hS
  have HKN := hide hkn
  clear hM hY ho hS hkn HX HRU
  go_wp2
  go_cut [12, 13] from 84 to 99 (fun s t wc => ∃ (B : Nat) (sa : Option Addr) (sc : Nat), s = .pointer (some ⟨B, 0, none⟩) ∧ t = .bool kn ∧ B < wc.heap.size ∧ Hid (Blk wc B [.string sn, .slice sa sg.length sc, .int .i64 st]) ∧ Hid (IsInts wc 0 wc.heap.size sa sg) ∧ Hid (Below w2.heap.size w2 wc))
  case first =>
    go_region_held3 (fun w' => w'.cell? ⟨P, 0, none⟩ = some c0 ∧ w'.cell? ⟨P, 1, none⟩ = some c1 ∧ w'.cell? ⟨P, 2, none⟩ = some c2 ∧ w'.cell? ⟨P, 3, none⟩ = some (.slice fa ys.length fcap) ∧ w'.cell? ⟨w.heap.size, 2, none⟩ = some (.string nm) ∧ w'.cell? ⟨w.heap.size, 3, none⟩ = some (.string md))
      (exact unhide HSK _ (by first | exact Below.refl _ _ | exact (Below.refl _ _).drew | exact (Below.refl _ w2).drew.alloc (Nat.le_refl _) _ | exact (Below.refl _ w2).alloc (Nat.le_refl _) _ | exact ((Below.refl _ w2).alloc (Nat.le_refl _) _).drew | exact kW | exact kW.alloc kW.size _ | exact kW.setCell (Nat.le_refl _) _ | exact (kW.setCell (Nat.le_refl _) _).setCell (Nat.le_refl _) _ | exact ((kW.setCell (Nat.le_refl _) _).setCell (Nat.le_refl _) _).setCell (Nat.le_refl _) _))
      (first | (go_at_call 90; refine (unhide HT _ (by first | exact (Below.refl _ w2).drew | exact ((Below.refl _ w2).alloc (Nat.le_refl _) _).drew | exact (Below.refl _ w2).drew.alloc (Nat.le_refl _) _)).mono ?_; rintro r w3 ⟨v, rfl, hown, hb3⟩; obtain ⟨sa, sc, rfl, hI⟩ := hown.ints; first | (have kW : Below w2.heap.size w2 w3 := (Below.refl _ w2).drew.trans hb3) | (have n3 : Blk w3 w2.heap.size [Value.string ⟨#[]⟩, Value.slice none 0 0, Value.int .i64 0] := (Blk.new w2.drew [Value.string ⟨#[]⟩, Value.slice none 0 0, Value.int .i64 0] 81).below hb3 (by simp); have y0 := n3.cellAt (i := 0) rfl; have y1 := n3.cellAt (i := 1) rfl; have y2 := n3.cellAt (i := 2) rfl; have x0 := n3.2 0; have x1 := n3.2 1; have x2 := n3.2 2; have kW : Below w2.heap.size w2 w3 := (((Below.refl _ w2).drew.alloc (Nat.le_refl _) _)).trans (hb3.mono (by simp)))))
    all_goals (
      go_wp2_with fail
      go_meet)
    all_goals first
      | exact ⟨w3.heap.size, sa, sc, rfl, rfl, by simp, hide (Blk.new w3 [.string sn, .slice sa sg.length sc, .int .i64 st] 81), hide ((hI.kept ((Below.refl _ w3).alloc (Nat.le_refl _) _) (by simp)).lower), hide (kW.alloc kW.size _)⟩
      | exact ⟨w2.heap.size, sa, sc, rfl, rfl, by have := hb3.size; simp [World.setCell] at this ⊢; omega, hide (((n3.set 0 (.string sn) (by simp)).set 1 (.slice sa sg.length sc) (by simp)).set 2 (.int .i64 st) (by simp)), hide ((set3_size _ _ _ _ _).symm ▸ ints_set3 hI (by first | (simp; done) | (simp; omega) | omega)), hide (((kW.setCell (p := ⟨w2.heap.size, 0, none⟩) (Nat.le_refl _) _).setCell (p := ⟨w2.heap.size, 1, none⟩) (Nat.le_refl _) _).setCell (p := ⟨w2.heap.size, 2, none⟩) (Nat.le_refl _) _)⟩
  case rest =>
  obtain ⟨B, sa, sc, rfl, rfl, hB, HBK, HI2, HB⟩ := hcut
  have b1 := (unhide HBK).cellAt (i := 1) rfl
  have b2 := (unhide HBK).cellAt (i := 2) rfl
  have HB3 := hide ((unhide HB2).trans ((unhide HB).mono (unhide HB2).size))
  clear HT HBK d0 d1 d2 d3
  cases o with
  | none =>
    have hk0 := unhide HKN
    subst hk0
    clear b1 b2 HS HKN
    go_wp2
    go_ret2
    refine ⟨?_, unhide HB3⟩
    rw [unhide HX2]
    rfl
  | some s =>
    have hk0 := unhide HKN
    subst hk0
    have hs0 : s = ⟨sn, sg, st⟩ := unhide HS
    subst hs0
    clear HS HKN
    have hsm := unhide HSM _ rfl
    dsimp only at hsm
    go_wp2_with fail
    refine (l4Apply_any 0 _ _ _ _ _ sg ps st wc (unhide HI2) ((unhide HI).kept (unhide HB) (unhide HB).size) hsm).mono ?_
    rintro r w4 ⟨rfl, hb4⟩
    have HB4 := hide ((unhide HB3).trans (hb4.mono (unhide HB3).size))
    have HX3 : Hid (T = applyT sg st ps) := hide (unhide HX2)
    obtain ⟨A, hA⟩ : ∃ A, applyT sg st ps = A := ⟨_, rfl⟩
    rw [hA] at HX3 ⊢
    obtain ⟨t1, t2⟩ := A
    clear hA hb4
    go_wp2
    go_ret2
    refine ⟨?_, unhide HB4⟩
    rw [unhide HX3]
    rfl
end Go.Proofs.YtgmohnbjfemebaaGreatDoor

namespace Go.Proofs.YtgmohnbjfemebaaGreatDoor
open Go.RowKit Go.PlainAid

set_option maxHeartbeats 4000000 in
theorem exprS_1 (P : Nat) (m : TM) (ys : List TY) (h : Nat) (lo lo2 : Nat) (mm : Int) (nm md : ByteArray) (kids : List TE) (x : Value) (w : World) (a : Option Addr) (cap : Nat) (vars : List TA)
    (hE : IsE w lo w.heap.size (h + 1) x (.node 1 mm nm md kids)) (hnode : nodeB 1 mm nm md kids.length = true) (hV : IsArgs (IsArg w lo2 w.heap.size) w lo2 w.heap.size a vars) (hd : vars.length + deepL kids ≤ 1100000) :
    Calls Tryz.prog 41 #[.pointer (some ⟨P, 0, none⟩), .slice a vars.length cap, x] w fun r w' => r = .returned (.tuple #[.int .i64 ((TE.node 1 mm nm md kids).typ (findSig m ys) vars).1, .int .i64 ((TE.node 1 mm nm md kids).typ (findSig m ys) vars).2]) ∧ Below w.heap.size w w' := by
  have hk0 : kids = [] := List.length_eq_zero_iff.1 ((node_kids hnode).1 rfl)
  subst hk0
  have HX : Hid ((TE.node 1 mm nm md []).typ (findSig m ys) vars = ruleT (findSig m ys) 1 nm md vars []) := hide (typ_done (by rw [kidsT]))
  have HV := hide (fun (W' : World) (hb : Below w.heap.size w W') => hV.kept hb hb.size)
  have hvl : vars.length ≤ maxLen := by unfold maxLen; omega
  obtain ⟨ka, kc, rfl, hz, hk⟩ := hE
  clear hk hV hz hnode hd
  go_enter Tryz.func41, Tryz.ntmps41
  go_wp2
  go_ret2
  refine ⟨?_, (Below.refl _ _).alloc (Nat.le_refl _) _⟩
  rw [unhide HX]
  rfl

set_option maxHeartbeats 4000000 in
theorem exprS_2 (P : Nat) (m : TM) (ys : List TY) (h : Nat) (lo lo2 : Nat) (mm : Int) (nm md : ByteArray) (kids : List TE) (x : Value) (w : World) (a : Option Addr) (cap : Nat) (vars : List TA)
    (hE : IsE w lo w.heap.size (h + 1) x (.node 2 mm nm md kids)) (hnode : nodeB 2 mm nm md kids.length = true) (hV : IsArgs (IsArg w lo2 w.heap.size) w lo2 w.heap.size a vars) (hd : vars.length + deepL kids ≤ 1100000) :
    Calls Tryz.prog 41 #[.pointer (some ⟨P, 0, none⟩), .slice a vars.length cap, x] w fun r w' => r = .returned (.tuple #[.int .i64 ((TE.node 2 mm nm md kids).typ (findSig m ys) vars).1, .int .i64 ((TE.node 2 mm nm md kids).typ (findSig m ys) vars).2]) ∧ Below w.heap.size w w' := by
  have hk0 : kids = [] := List.length_eq_zero_iff.1 ((node_kids hnode).2.1 rfl)
  subst hk0
  have HX : Hid ((TE.node 2 mm nm md []).typ (findSig m ys) vars = ruleT (findSig m ys) 2 nm md vars []) := hide (typ_done (by rw [kidsT]))
  have HV := hide (fun (W' : World) (hb : Below w.heap.size w W') => hV.kept hb hb.size)
  have hvl : vars.length ≤ maxLen := by unfold maxLen; omega
  obtain ⟨ka, kc, rfl, hz, hk⟩ := hE
  clear hk hV hz hnode hd
  go_enter Tryz.func41, Tryz.ntmps41
  go_wp2
  go_ret2
  refine ⟨?_, (Below.refl _ _).alloc (Nat.le_refl _) _⟩
  rw [unhide HX]
  rfl

set_option maxHeartbeats 4000000 in
theorem exprS_3 (P : Nat) (m : TM) (ys : List TY) (h : Nat) (lo lo2 : Nat) (mm : Int) (nm md : ByteArray) (kids : List TE) (x : Value) (w : World) (a : Option Addr) (cap : Nat) (vars : List TA)
    (hE : IsE w lo w.heap.size (h + 1) x (.node 3 mm nm md kids)) (hnode : nodeB 3 mm nm md kids.length = true) (hV : IsArgs (IsArg w lo2 w.heap.size) w lo2 w.heap.size a vars) (hd : vars.length + deepL kids ≤ 1100000) :
    Calls Tryz.prog 41 #[.pointer (some ⟨P, 0, none⟩), .slice a vars.length cap, x] w fun r w' => r = .returned (.tuple #[.int .i64 ((TE.node 3 mm nm md kids).typ (findSig m ys) vars).1, .int .i64 ((TE.node 3 mm nm md kids).typ (findSig m ys) vars).2]) ∧ Below w.heap.size w w' := by
  have hk0 : kids = [] := List.length_eq_zero_iff.1 ((node_kids hnode).2.2.1 rfl)
  subst hk0
  have HX : Hid ((TE.node 3 mm nm md []).typ (findSig m ys) vars = ruleT (findSig m ys) 3 nm md vars []) := hide (typ_done (by rw [kidsT]))
  have HV := hide (fun (W' : World) (hb : Below w.heap.size w W') => hV.kept hb hb.size)
  have hvl : vars.length ≤ maxLen := by unfold maxLen; omega
  obtain ⟨ka, kc, rfl, hz, hk⟩ := hE
  clear hk hV hz hnode hd
  go_enter Tryz.func41, Tryz.ntmps41
  go_wp2_with fail
  refine (l4Var_any lo2 a cap vars nm _ (unhide HV _ ((Below.refl _ w).alloc (Nat.le_refl _) _)) hvl).mono ?_
  rintro r w2 ⟨rfl, rfl⟩
  have HX2 : Hid ((TE.node 3 mm nm md []).typ (findSig m ys) vars = varT vars nm) := hide ((unhide HX).trans rfl)
  obtain ⟨A, hA⟩ : ∃ A, varT vars nm = A := ⟨_, rfl⟩
  rw [hA] at HX2 ⊢
  obtain ⟨t1, t2⟩ := A
  clear hA HX HV
  go_wp2
  go_ret2
  refine ⟨?_, (Below.refl _ _).alloc (Nat.le_refl _) _⟩
  rw [unhide HX2]
  rfl
end Go.Proofs.YtgmohnbjfemebaaGreatDoor
