/- The walk of l6Rows. Conditions: the values can be read. -/
import Derived.Test.YtjnahhalgckggaaAe
import Derived.Test.YtjnahhalgckggaaAf
import Derived.Deep.RegionLaw
namespace Go.Proofs.Ytjnahhalgckggaa
open Go.RowKit Go.PlainAid

/-- A step of a region that draws its order: appending, its run being known. -/
theorem step_run {P : Program} {w : World} {ops : Array Oper} {o : Oper} {a : Act} {K : Act → World → Prop} {Q : Exit → Act → World → Prop} {E : Prop} (hgd : o.guard = none) (s x : Operand) (t : TypeId)
    (ho : o.op = .call { callee := .builtin .append, args := #[s, x], argTypes := #[t, t] }) (hty : o.type = t) (v y : Value) (hs : a.eval s = v) (hx : a.eval x = y) (v' : Value) (w' : World) (hr : (Builtin.append_ #[t, t] t #[v, y]).run P w = .ok v' w') (h : K (a.put o.dst v') w') :
    if Region.wanted o (yielded ops a.tmps) = true then Oper.wp P o a w K Q else E := by
  have hw : Region.wanted o (yielded ops a.tmps) = true := by simp [Region.wanted, hgd]
  rw [if_pos hw]
  unfold Oper.wp execOp
  simp only [ho, hty, resolve, invoke, builtin, Sem.run_bind, Sem.run_pure, Result.andThen_ok, List.map_toArray, List.map_cons, List.map_nil, hs, hx, hr]
  exact h
theorem wpList_run {P : Program} {w : World} {ops : Array Oper} {rest : List Oper} {o : Oper} {a : Act} {Q : Exit → Act → World → Prop} (hgd : o.guard = none) (s x : Operand) (t : TypeId)
    (ho : o.op = .call { callee := .builtin .append, args := #[s, x], argTypes := #[t, t] }) (hty : o.type = t) (v y : Value) (hs : a.eval s = v) (hx : a.eval x = y) (v' : Value) (w' : World) (hr : (Builtin.append_ #[t, t] t #[v, y]).run P w = .ok v' w') (h : wpList P ops Q rest (a.put o.dst v') w') : wpList P ops Q (o :: rest) a w :=
  wpList_plain hgd fun _ hK => by
    unfold Oper.wp execOp
    simp only [ho, hty, resolve, invoke, builtin, Sem.run_bind, Sem.run_pure, Result.andThen_ok, List.map_toArray, List.map_cons, List.map_nil, hs, hx, hr]
    exact hK _ _ h
/-- The cells of a value in a row. -/
def CellsMv (w : World) (lo b o : Nat) (x : MV) : Prop := ∃ (aa : Option Addr) (ca : Nat), w.cell? ⟨b, o, none⟩ = some (.int .i64 x.kind) ∧ w.cell? ⟨b, o + 1, none⟩ = some (.int .i64 x.num) ∧ w.cell? ⟨b, o + 2, none⟩ = some (.slice aa x.row.length ca) ∧ x.row.length ≤ 1048576 ∧ IsInts w lo w.heap.size aa x.row
/-- What an answer of a primitive is: its row in a block of its own. -/
def PPost (R : MV × Int) (w : World) (e : Ending) (w' : World) : Prop := ∃ s : Value, e = .returned (.tuple #[.agg #[.int .i64 R.1.kind, .int .i64 R.1.num, s], .int .i64 R.2]) ∧ OwnI w' w.heap.size w'.heap.size s R.1.row ∧ Below w.heap.size w w'
theorem PPost.plain {k n c : Int} {w w' : World} (h : Below w.heap.size w w') : PPost (⟨k, n, []⟩, c) w (.returned (.tuple #[mv0 k n, .int .i64 c])) w' := ⟨_, rfl, own_nil _ _ _, h⟩
theorem OwnI.form {w : World} {lo n : Nat} {v : Value} {zs : List Int} (h : OwnI w lo n v zs) : ∃ (a : Option Addr) (cap : Nat), v = .slice a zs.length cap := by
  obtain ⟨a, cap, hv, _⟩ := h
  exact ⟨a, cap, hv⟩
theorem OwnI.put {w : World} {lo n b m cap q : Nat} {u : Int} {zs : List Int} (h : OwnI w lo n (.slice (some ⟨b, 0, none⟩) m cap) zs) (hq : q < zs.length) : OwnI (w.setCell ⟨b, q, none⟩ (.int .i64 u)) lo n (.slice (some ⟨b, 0, none⟩) m cap) (zs.set q u) := by
  obtain ⟨a, c, hv, h⟩ := h
  simp only [Value.slice.injEq] at hv
  obtain ⟨rfl, rfl, rfl⟩ := hv
  rcases h with h | ⟨b', h1, h2, h3, h4, h5⟩
  · rw [h] at hq; simp at hq
  simp only [Option.some.injEq, Addr.mk.injEq] at h1
  obtain ⟨rfl, -, -⟩ := h1
  refine ⟨_, _, by rw [List.length_set], .inr ⟨b, rfl, h2, h3, fun j hj => ?_, fun j => (World.frozen?_setCell ..).trans (h5 j)⟩⟩
  rw [List.length_set] at hj
  by_cases e : q = j
  · subst e
    rw [cell_same _ _ _ _ (by rw [h4 q hq]; rfl), List.getElem_set_self]
  · rw [cell_other _ _ _ _ _ e, h4 j hj, List.getElem_set_ne e]
/-- A row stays what it is when cells of an elder block are written. -/
theorem OwnI.setE {w : World} {lo n B i : Nat} {v u : Value} {zs : List Int} (h : OwnI w lo n v zs) (hB : B < lo) : OwnI (w.setCell ⟨B, i, none⟩ u) lo n v zs :=
  h.same (fun b hb _ => ⟨fun j => World.cell?_setCell_other _ ⟨B, i, none⟩ ⟨b, j, none⟩ _ (by simp <;> omega), fun j => World.frozen?_setCell ..⟩) (Nat.le_refl _) (Nat.le_refl _)

set_option maxHeartbeats 1000000 in
theorem l6Rows_11 (lo b off cap : Nat) (x : MV) (w : World) (hx : CellsMv w lo b off x) (hb : b < w.heap.size) : Calls Try.prog 36 #[.int .i64 11, .slice (some ⟨b, off, none⟩) 1 cap] w fun e w' => PPost (⟨1, x.row.length, []⟩, 0) w e w' := by
  obtain ⟨a0, c0, p0, p1, p2, p3, p4⟩ := hx
  obtain ⟨L0, hL0⟩ : ∃ L, x.row.length = L := ⟨_, rfl⟩
  rw [hL0] at p2 p3 ⊢
  clear p4
  go_enter Try.func36, Try.ntmps36
  go_wp2_with fail
  refine (l6Int_any _ _).mono ?_
  rintro r w2 ⟨rfl, hb2⟩
  have hblk : Blk w2 w.heap.size [Value.int .i64 0, Value.int .i64 0, Value.slice none 0 0] := (Blk.new w [Value.int .i64 0, Value.int .i64 0, Value.slice none 0 0] 28).below hb2 (by simp)
  have HBB := hide ((below_new w _).trans (hb2.mono (by simp)))
  have q0 := hblk.cellAt (i := 0) rfl
  have q1 := hblk.cellAt (i := 1) rfl
  have q2 := hblk.cellAt (i := 2) rfl
  have f0 := hblk.2 0
  have f1 := hblk.2 1
  have f2 := hblk.2 2
  have HBLK := hide hblk
  clear hblk hb2
  go_wp2
  have hn := (((unhide HBLK).set 0 (.int .i64 1) (by simp)).set 1 (.int .i64 L0) (by simp)).set 2 (.slice none 0 0) (by simp)
  have hFB := (((unhide HBB).setCell (p := ⟨w.heap.size, 0, none⟩) (Nat.le_refl _) (.int .i64 1)).setCell (p := ⟨w.heap.size, 1, none⟩) (Nat.le_refl _) (.int .i64 L0)).setCell (p := ⟨w.heap.size, 2, none⟩) (Nat.le_refl _) (.slice none 0 0)
  obtain ⟨FW, hF⟩ : ∃ FW, FW = ((w2.setCell ⟨w.heap.size, 0, none⟩ (.int .i64 1)).setCell ⟨w.heap.size, 1, none⟩ (.int .i64 L0)).setCell ⟨w.heap.size, 2, none⟩ (.slice none 0 0) := ⟨_, rfl⟩
  rw [← hF] at hn hFB ⊢
  have g0 := hn.cellAt (i := 0) rfl
  have g1 := hn.cellAt (i := 1) rfl
  have g2 := hn.cellAt (i := 2) rfl
  refine bodyPost_ret (v := .tuple #[.agg #[.int .i64 1, .int .i64 L0, .slice none 0 0], .int .i64 0]) (by simp [results, Try.results36, go_sem, g0, g1, g2]) rfl (.plain hFB)


set_option maxHeartbeats 2000000 in
theorem l6Rows_10 (lo b off cap : Nat) (x y : MV) (w : World) (hx : CellsMv w lo b off x) (hy : CellsMv w lo b (off + 3) y) (hb : b < w.heap.size) : Calls Try.prog 36 #[.int .i64 10, .slice (some ⟨b, off, none⟩) 2 cap] w fun e w' => PPost (if 0 ≤ y.num ∧ y.num < x.row.length then (⟨1, x.row.getD y.num.toNat 0, []⟩, 0) else (⟨0, 0, []⟩, 2)) w e w' := by
  obtain ⟨a0, c0, p0, p1, p2, p3, p4⟩ := hx
  obtain ⟨a1, c1, r0, r1, r2, r3, r4⟩ := hy
  obtain ⟨pl, hpl⟩ : ∃ p, y.num = p := ⟨_, rfl⟩
  rw [hpl] at r1 ⊢
  obtain ⟨R, hR⟩ : ∃ R, (if 0 ≤ pl ∧ pl < x.row.length then ((⟨1, x.row.getD pl.toNat 0, []⟩ : MV), (0 : Int)) else (⟨0, 0, []⟩, 2)) = R := ⟨_, rfl⟩
  rw [hR]
  by_cases g0 : pl < 0
  · have HX : Hid (R = (⟨0, 0, []⟩, 2)) := hide (by rw [← hR, if_neg (by omega)])
    clear hR p4 r4
    obtain ⟨L0, hL0⟩ : ∃ L, x.row.length = L := ⟨_, rfl⟩
    rw [hL0] at p2 p3
    go_enter Try.func36, Try.ntmps36
    go_wp2
    refine bodyPost_ret (v := .tuple #[mv0 0 0, .int .i64 2]) (by simp [results, Try.results36, go_sem]) rfl ?_
    rw [unhide HX]
    exact .plain (below_new _ _)
  by_cases g1 : (x.row.length : Int) ≤ pl
  · have HX : Hid (R = (⟨0, 0, []⟩, 2)) := hide (by rw [← hR, if_neg (by omega)])
    clear hR p4 r4
    obtain ⟨L0, hL0⟩ : ∃ L, x.row.length = L := ⟨_, rfl⟩
    rw [hL0] at p2 p3 g1
    go_enter Try.func36, Try.ntmps36
    go_wp2
    refine bodyPost_ret (v := .tuple #[mv0 0 0, .int .i64 2]) (by simp [results, Try.results36, go_sem]) rfl ?_
    rw [unhide HX]
    exact .plain (below_new _ _)
  obtain ⟨q, hq⟩ := Int.eq_ofNat_of_zero_le (show 0 ≤ pl by omega)
  subst hq
  have hq : q < x.row.length := by omega
  obtain ⟨z, hz⟩ : ∃ z, x.row[q] = z := ⟨_, rfl⟩
  have HX : Hid (R = (⟨1, z, []⟩, 0)) := hide (by rw [← hR, if_pos (by omega)]; simp [List.getD, hq, hz])
  rcases p4 with h | ⟨bb, oo, rfl, hbl, hbn, hcs⟩
  · rw [h] at hq; simp at hq
  have hc := hcs q hq
  rw [hz] at hc
  clear hR r4 hcs hz
  obtain ⟨L0, hL0⟩ : ∃ L, x.row.length = L := ⟨_, rfl⟩
  rw [hL0] at p2 p3 g1 hq
  go_enter Try.func36, Try.ntmps36
  go_wp2_with fail
  refine (l6Int_any _ _).mono ?_
  rintro r w2 ⟨rfl, hb2⟩
  have hblk : Blk w2 w.heap.size [Value.int .i64 0, Value.int .i64 0, Value.slice none 0 0] := (Blk.new w [Value.int .i64 0, Value.int .i64 0, Value.slice none 0 0] 28).below hb2 (by simp)
  have HBB := hide ((below_new w _).trans (hb2.mono (by simp)))
  have q0 := hblk.cellAt (i := 0) rfl
  have q1 := hblk.cellAt (i := 1) rfl
  have q2 := hblk.cellAt (i := 2) rfl
  have f0 := hblk.2 0
  have f1 := hblk.2 1
  have f2 := hblk.2 2
  have HBLK := hide hblk
  clear hblk hb2
  go_wp2
  have hn := (((unhide HBLK).set 0 (.int .i64 1) (by simp)).set 1 (.int .i64 z) (by simp)).set 2 (.slice none 0 0) (by simp)
  have hFB := (((unhide HBB).setCell (p := ⟨w.heap.size, 0, none⟩) (Nat.le_refl _) (.int .i64 1)).setCell (p := ⟨w.heap.size, 1, none⟩) (Nat.le_refl _) (.int .i64 z)).setCell (p := ⟨w.heap.size, 2, none⟩) (Nat.le_refl _) (.slice none 0 0)
  obtain ⟨FW, hF⟩ : ∃ FW, FW = ((w2.setCell ⟨w.heap.size, 0, none⟩ (.int .i64 1)).setCell ⟨w.heap.size, 1, none⟩ (.int .i64 z)).setCell ⟨w.heap.size, 2, none⟩ (.slice none 0 0) := ⟨_, rfl⟩
  rw [← hF] at hn hFB ⊢
  have g0 := hn.cellAt (i := 0) rfl
  have g1 := hn.cellAt (i := 1) rfl
  have g2 := hn.cellAt (i := 2) rfl
  refine bodyPost_ret (v := .tuple #[.agg #[.int .i64 1, .int .i64 z, .slice none 0 0], .int .i64 0]) (by simp [results, Try.results36, go_sem, g0, g1, g2]) rfl ?_
  rw [unhide HX]
  exact .plain hFB

theorem made2 (w : World) : OwnR ((w.alloc (.cells #[Value.int .i64 0, Value.int .i64 0, Value.slice none 0 0] 28)).alloc (.cells #[] 3)).drew (w.heap.size + 1) (.slice (some ⟨w.heap.size + 1, 0, none⟩) 0 0) [] := by
  have := OwnR.made (w.alloc (.cells #[Value.int .i64 0, Value.int .i64 0, Value.slice none 0 0] 28)).drew (w.heap.size + 1) (by simp)
  have e : (w.alloc (.cells #[Value.int .i64 0, Value.int .i64 0, Value.slice none 0 0] 28)).drew.heap.size = w.heap.size + 1 := by simp
  rw [e] at this
  exact this
theorem below2 (w : World) : Below w.heap.size w ((w.alloc (.cells #[Value.int .i64 0, Value.int .i64 0, Value.slice none 0 0] 28)).alloc (.cells #[] 3)).drew := (((Below.refl _ w).alloc (Nat.le_refl _) _).alloc (by simp) _).drew
theorem blk2 (w : World) : Blk ((w.alloc (.cells #[Value.int .i64 0, Value.int .i64 0, Value.slice none 0 0] 28)).alloc (.cells #[] 3)).drew w.heap.size [Value.int .i64 0, Value.int .i64 0, Value.slice none 0 0] := ((Blk.new w [Value.int .i64 0, Value.int .i64 0, Value.slice none 0 0] 28).old _ (by simp)).below (Below.refl (w.heap.size + 1) _).drew (by omega)

set_option maxRecDepth 100000 in
set_option maxHeartbeats 4000000 in
theorem l6Rows_13 (lo b off cap : Nat) (x y : MV) (w : World) (hx : CellsMv w lo b off x) (hy : CellsMv w lo b (off + 3) y) (hb : b < w.heap.size) : Calls Try.prog 36 #[.int .i64 13, .slice (some ⟨b, off, none⟩) 2 cap] w fun e w' => PPost (if 16 < x.row.length + y.row.length then (⟨0, 0, []⟩, 3) else (⟨3, 0, x.row ++ y.row⟩, 0)) w e w' := by
  obtain ⟨a0, c0, p0, p1, p2, p3, p4⟩ := hx
  obtain ⟨a1, c1, s0, s1, s2, s3, s4⟩ := hy
  obtain ⟨R, hR⟩ : ∃ R, (if 16 < x.row.length + y.row.length then ((⟨0, 0, []⟩ : MV), (3 : Int)) else (⟨3, 0, x.row ++ y.row⟩, 0)) = R := ⟨_, rfl⟩
  rw [hR]
  by_cases h16 : 16 < x.row.length + y.row.length
  · have HX : Hid (R = (⟨0, 0, []⟩, 3)) := hide (by rw [← hR, if_pos h16])
    obtain ⟨L0, hL0⟩ : ∃ L, x.row.length = L := ⟨_, rfl⟩
    obtain ⟨L1, hL1⟩ : ∃ L, y.row.length = L := ⟨_, rfl⟩
    rw [hL0] at p2 p3 h16
    rw [hL1] at s2 s3 h16
    clear p4 s4 hR
    go_enter Try.func36, Try.ntmps36
    go_wp2
    refine bodyPost_ret (v := .tuple #[mv0 0 0, .int .i64 3]) (by simp [results, Try.results36, go_sem]) rfl ?_
    rw [unhide HX]
    exact .plain (below_new _ _)
  · have HX : Hid (R = (⟨3, 0, x.row ++ y.row⟩, 0)) := hide (by rw [← hR, if_neg h16])
    obtain ⟨Y, hY⟩ : ∃ Y, Y = ((w.alloc (.cells #[Value.int .i64 0, Value.int .i64 0, Value.slice none 0 0] 28)).alloc (.cells #[] 3)).drew := ⟨_, rfl⟩
    have bY : Below w.heap.size w Y := by rw [hY]; exact below2 w
    have kY : Blk Y w.heap.size [Value.int .i64 0, Value.int .i64 0, Value.slice none 0 0] := by rw [hY]; exact blk2 w
    have hYS : Y.heap.size = w.heap.size + 2 := by rw [hY]; simp
    obtain ⟨v1, X1, r1, o1, y1⟩ := run_app_any Y (w.heap.size + 1) (.slice (some ⟨w.heap.size + 1, 0, none⟩) 0 0) [] x.row (by rw [hY]; exact made2 w) (by omega) a0 c0 lo w.heap.size (p4.kept bY (Nat.le_refl _)) (by have : ([] : List Int).length = 0 := rfl; omega)
    have b1 : Below (w.heap.size + 1) Y X1 := grown_below y1 (by omega) (fun k hk => by cases hk; exact Nat.le_refl _)
    have bX1 := bY.trans (b1.mono (Nat.le_succ _))
    rw [List.nil_append] at o1
    obtain ⟨v2, X2, r2, o2, y2⟩ := run_app_any X1 (w.heap.size + 1) v1 x.row y.row o1 (by have := b1.size; omega) a1 c1 lo w.heap.size (s4.kept bX1 (Nat.le_refl _)) (by omega)
    have b2 : Below (w.heap.size + 1) X1 X2 := grown_below y2 (by have := b1.size; omega) (OwnR.block o1)
    have bX2 := bX1.trans (b2.mono (Nat.le_succ _))
    have kX2 := (kY.below b1 (by omega)).below b2 (by omega)
    have hX2S : w.heap.size + 2 ≤ X2.heap.size := by have := b1.size; have := b2.size; omega
    obtain ⟨a2, c2, rfl⟩ := o2.own.form
    have cX1 : X1.cell? ⟨b, off + 3 + 2, none⟩ = some (.slice a1 y.row.length c1) := (bX1.cell (p := ⟨b, off + 3 + 2, none⟩) hb).trans s2
    rw [hY] at r1
    have O2 := hide o2.own
    have BX2 := hide bX2
    have KX2 := hide kX2
    have SX2 := hide hX2S
    have eXY : (x.row ++ y.row).length = x.row.length + y.row.length := List.length_append
    clear o1 o2 b1 b2 bX1 bX2 kX2 kY bY hY hYS y1 y2 p4 s4 hR hX2S
    rw [eXY] at r2 O2
    obtain ⟨L0, hL0⟩ : ∃ L, x.row.length = L := ⟨_, rfl⟩
    obtain ⟨L1, hL1⟩ : ∃ L, y.row.length = L := ⟨_, rfl⟩
    rw [hL0] at p2 p3 h16 r1 r2 O2
    rw [hL1] at s2 s3 h16 r2 O2 cX1
    clear eXY hL0 hL1
    go_enter Try.func36, Try.ntmps36
    go_wp2
    go_region_law (first
      | (refine step_run rfl (.tmp 30) (.tmp 31) 26 rfl rfl (.slice (some ⟨w.heap.size + 1, 0, none⟩) 0 0) (.slice a0 L0 c0) rfl rfl v1 X1 (by with_reducible exact r1) ?_)
      | (refine step_run rfl (.tmp 32) (.tmp 36) 26 rfl rfl v1 (.slice a1 L1 c1) rfl rfl (.slice a2 (L0 + L1) c2) X2 (by with_reducible exact r2) ?_)
      | (go_simp; refine (l6Row_any a2 (L0 + L1) c2 X2).mono ?_; rintro r w2 ⟨rfl, hb2⟩; have hblk := (unhide KX2).below hb2 (by have := unhide SX2; omega); have q0 := hblk.cellAt (i := 0) rfl; have q1 := hblk.cellAt (i := 1) rfl; have q2 := hblk.cellAt (i := 2) rfl; have f0 := hblk.2 0; have f1 := hblk.2 1; have f2 := hblk.2 2; have HBLK := hide hblk; have HBB := hide ((unhide BX2).trans (hb2.mono (unhide BX2).size)); have OW := hide ((unhide O2).kept hb2 hb2.size); clear hblk hb2))
    all_goals
      go_wp2
      have hn := (((unhide HBLK).set 0 (.int .i64 3) (by simp)).set 1 (.int .i64 0) (by simp)).set 2 (.slice a2 (L0 + L1) c2) (by simp)
      have hFB := (((unhide HBB).setCell (p := ⟨w.heap.size, 0, none⟩) (Nat.le_refl _) (.int .i64 3)).setCell (p := ⟨w.heap.size, 1, none⟩) (Nat.le_refl _) (.int .i64 0)).setCell (p := ⟨w.heap.size, 2, none⟩) (Nat.le_refl _) (.slice a2 (L0 + L1) c2)
      obtain ⟨FW, hF⟩ : ∃ FW, FW = ((w2.setCell ⟨w.heap.size, 0, none⟩ (.int .i64 3)).setCell ⟨w.heap.size, 1, none⟩ (.int .i64 0)).setCell ⟨w.heap.size, 2, none⟩ (.slice a2 (L0 + L1) c2) := ⟨_, rfl⟩
      rw [← hF] at hn hFB ⊢
      have g0 := hn.cellAt (i := 0) rfl
      have g1 := hn.cellAt (i := 1) rfl
      have g2 := hn.cellAt (i := 2) rfl
      refine bodyPost_ret (v := .tuple #[.agg #[.int .i64 3, .int .i64 0, .slice a2 (L0 + L1) c2], .int .i64 0]) (by simp [results, Try.results36, go_sem, g0, g1, g2]) rfl ?_
      rw [unhide HX]
      refine ⟨_, rfl, ?_, hFB⟩
      rw [hF]
      exact (((((unhide OW).setE (Nat.lt_succ_self _)).setE (Nat.lt_succ_self _)).setE (Nat.lt_succ_self _)).same (fun _ _ _ => ⟨fun _ => rfl, fun _ => rfl⟩) (Nat.le_succ _) (by simp [World.setCell]))

set_option maxRecDepth 100000 in
set_option maxHeartbeats 4000000 in
theorem l6Rows_12 (lo b off cap : Nat) (x y z : MV) (w : World) (hx : CellsMv w lo b off x) (hy : CellsMv w lo b (off + 3) y) (hzz : CellsMv w lo b (off + 6) z) (hb : b < w.heap.size) : Calls Try.prog 36 #[.int .i64 12, .slice (some ⟨b, off, none⟩) 3 cap] w fun e w' => PPost (if 0 ≤ y.num ∧ y.num < x.row.length then (⟨3, 0, x.row.set y.num.toNat z.num⟩, 0) else (⟨0, 0, []⟩, 2)) w e w' := by
  obtain ⟨a0, c0, p0, p1, p2, p3, p4⟩ := hx
  obtain ⟨a1, c1, r0, r1, r2, r3, r4⟩ := hy
  obtain ⟨a2, c2, s0, s1, s2, s3, s4⟩ := hzz
  obtain ⟨pl, hpl⟩ : ∃ p, y.num = p := ⟨_, rfl⟩
  obtain ⟨u, hu⟩ : ∃ p, z.num = p := ⟨_, rfl⟩
  rw [hpl] at r1 ⊢
  rw [hu] at s1 ⊢
  obtain ⟨R, hR⟩ : ∃ R, (if 0 ≤ pl ∧ pl < x.row.length then ((⟨3, 0, x.row.set pl.toNat u⟩ : MV), (0 : Int)) else (⟨0, 0, []⟩, 2)) = R := ⟨_, rfl⟩
  rw [hR]
  clear r4 s4 r2 s2
  by_cases g0 : pl < 0
  · have HX : Hid (R = (⟨0, 0, []⟩, 2)) := hide (by rw [← hR, if_neg (by omega)])
    clear hR p4
    obtain ⟨L0, hL0⟩ : ∃ L, x.row.length = L := ⟨_, rfl⟩
    rw [hL0] at p2 p3
    go_enter Try.func36, Try.ntmps36
    go_wp2
    refine bodyPost_ret (v := .tuple #[mv0 0 0, .int .i64 2]) (by simp [results, Try.results36, go_sem]) rfl ?_
    rw [unhide HX]
    exact .plain (below_new _ _)
  by_cases g1 : (x.row.length : Int) ≤ pl
  · have HX : Hid (R = (⟨0, 0, []⟩, 2)) := hide (by rw [← hR, if_neg (by omega)])
    clear hR p4
    obtain ⟨L0, hL0⟩ : ∃ L, x.row.length = L := ⟨_, rfl⟩
    rw [hL0] at p2 p3 g1
    go_enter Try.func36, Try.ntmps36
    go_wp2
    refine bodyPost_ret (v := .tuple #[mv0 0 0, .int .i64 2]) (by simp [results, Try.results36, go_sem]) rfl ?_
    rw [unhide HX]
    exact .plain (below_new _ _)
  obtain ⟨q, hq⟩ := Int.eq_ofNat_of_zero_le (show 0 ≤ pl by omega)
  subst hq
  have hq : q < x.row.length := by omega
  have HX : Hid (R = (⟨3, 0, x.row.set q u⟩, 0)) := hide (by rw [← hR, if_pos (by omega)]; simp)
  obtain ⟨Y, hY⟩ : ∃ Y, Y = (w.alloc (.cells #[Value.int .i64 0, Value.int .i64 0, Value.slice none 0 0] 28)).alloc (.cells #[] 3) := ⟨_, rfl⟩
  have bY : Below w.heap.size w Y := by rw [hY]; exact ((Below.refl _ w).alloc (Nat.le_refl _) _).alloc (by simp) _
  have kY : Blk Y w.heap.size [Value.int .i64 0, Value.int .i64 0, Value.slice none 0 0] := by rw [hY]; exact (Blk.new w [Value.int .i64 0, Value.int .i64 0, Value.slice none 0 0] 28).old _ (by simp)
  have hYS : Y.heap.size = w.heap.size + 2 := by rw [hY]; simp
  obtain ⟨v1, X1, e1, o1, y1⟩ := run_app_any Y (w.heap.size + 1) (.slice (some ⟨w.heap.size + 1, 0, none⟩) 0 0) [] x.row (by rw [hY]; have := OwnR.made (w.alloc (.cells #[Value.int .i64 0, Value.int .i64 0, Value.slice none 0 0] 28)) (w.heap.size + 1) (by simp); rw [alloc_size] at this; exact this) (by omega) a0 c0 lo w.heap.size (p4.kept bY (Nat.le_refl _)) (by have : ([] : List Int).length = 0 := rfl; omega)
  have b1 : Below (w.heap.size + 1) Y X1 := grown_below y1 (by omega) (fun k hk => by cases hk; exact Nat.le_refl _)
  have bX1 := bY.trans (b1.mono (Nat.le_succ _))
  rw [List.nil_append] at o1
  have kX1 := kY.below b1 (by omega)
  have hX1S : w.heap.size + 2 ≤ X1.heap.size := by have := b1.size; omega
  have oo := o1.own
  obtain ⟨a3, c3, rfl, i3⟩ := o1.own
  rcases i3 with h | ⟨bb, rfl, hbl, hbn, hcs, hfz⟩
  · rw [h] at hq; simp at hq
  have cX1 : X1.cell? ⟨b, off + 6 + 1, none⟩ = some (.int .i64 u) := (bX1.cell (p := ⟨b, off + 6 + 1, none⟩) hb).trans s1
  have hcq := hcs q hq
  have hfq := hfz q
  have OWN := hide (oo.put (u := u) hq)
  have HBL := hide hbl
  rw [hY] at e1
  clear o1 b1 kY bY hY hYS y1 p4 hR hcs hfz oo
  obtain ⟨zq, hzq⟩ : ∃ zq, x.row[q] = zq := ⟨_, rfl⟩
  rw [hzq] at hcq
  have HLL := hide hq
  have HB1 := hide bX1
  have HK1 := hide kX1
  have HS1 := hide hX1S
  clear bX1 kX1 hX1S hzq
  obtain ⟨L0, hL0⟩ : ∃ L, x.row.length = L := ⟨_, rfl⟩
  have HL0 := hide hL0
  rw [hL0] at p2 p3 e1 g1 hq OWN
  clear hL0
  go_enter Try.func36, Try.ntmps36
  go_wp2_with (at_builtin; refine wpList_run rfl (.tmp 59) (.tmp 60) 26 rfl rfl (.slice (some ⟨w.heap.size + 1, 0, none⟩) 0 0) (.slice a0 L0 c0) rfl rfl (.slice (some ⟨bb, 0, none⟩) L0 c3) X1 e1 ?_)
  have HBX := hide ((unhide HB1).setCell (p := ⟨bb, q, none⟩) (Nat.le_trans (Nat.le_succ _) (unhide HBL)) (.int .i64 u))
  have HKX := hide ((unhide HK1).other bb q (.int .i64 u) (by have := unhide HBL; omega))
  have HSX : Hid (w.heap.size + 2 ≤ (X1.setCell ⟨bb, q, none⟩ (.int .i64 u)).heap.size) := hide (by simpa [World.setCell] using unhide HS1)
  have OWX : Hid (OwnI (X1.setCell ⟨bb, q, none⟩ (.int .i64 u)) (w.heap.size + 1) (X1.setCell ⟨bb, q, none⟩ (.int .i64 u)).heap.size (.slice (some ⟨bb, 0, none⟩) L0 c3) (x.row.set q u)) := hide ((unhide OWN).same (fun _ _ _ => ⟨fun _ => rfl, fun _ => rfl⟩) (Nat.le_refl _) (by simp [World.setCell]))
  refine (l6Row_any _ L0 c3 _).mono ?_
  rintro r w2 ⟨rfl, hb2⟩
  have hblk := (unhide HKX).below hb2 (by have := unhide HSX; omega)
  have q0 := hblk.cellAt (i := 0) rfl
  have q1 := hblk.cellAt (i := 1) rfl
  have q2 := hblk.cellAt (i := 2) rfl
  have f0 := hblk.2 0
  have f1 := hblk.2 1
  have f2 := hblk.2 2
  have HBLK := hide hblk
  have HBB := hide ((unhide HBX).trans (hb2.mono (unhide HBX).size))
  have OW := hide ((unhide OWX).kept hb2 hb2.size)
  clear hblk hb2
  go_wp2
  have hn := (((unhide HBLK).set 0 (.int .i64 3) (by simp)).set 1 (.int .i64 0) (by simp)).set 2 (.slice (some ⟨bb, 0, none⟩) L0 c3) (by simp)
  have hFB := (((unhide HBB).setCell (p := ⟨w.heap.size, 0, none⟩) (Nat.le_refl _) (.int .i64 3)).setCell (p := ⟨w.heap.size, 1, none⟩) (Nat.le_refl _) (.int .i64 0)).setCell (p := ⟨w.heap.size, 2, none⟩) (Nat.le_refl _) (.slice (some ⟨bb, 0, none⟩) L0 c3)
  obtain ⟨FW, hF⟩ : ∃ FW, FW = ((w2.setCell ⟨w.heap.size, 0, none⟩ (.int .i64 3)).setCell ⟨w.heap.size, 1, none⟩ (.int .i64 0)).setCell ⟨w.heap.size, 2, none⟩ (.slice (some ⟨bb, 0, none⟩) L0 c3) := ⟨_, rfl⟩
  rw [← hF] at hn hFB ⊢
  have g0 := hn.cellAt (i := 0) rfl
  have g1 := hn.cellAt (i := 1) rfl
  have g2 := hn.cellAt (i := 2) rfl
  refine bodyPost_ret (v := .tuple #[.agg #[.int .i64 3, .int .i64 0, .slice (some ⟨bb, 0, none⟩) L0 c3], .int .i64 0]) (by simp [results, Try.results36, go_sem, g0, g1, g2]) rfl ?_
  rw [unhide HX]
  refine ⟨_, rfl, ?_, hFB⟩
  rw [hF]
  exact (((((unhide OW).setE (Nat.lt_succ_self _)).setE (Nat.lt_succ_self _)).setE (Nat.lt_succ_self _)).same (fun _ _ _ => ⟨fun _ => rfl, fun _ => rfl⟩) (Nat.le_succ _) (by simp [World.setCell]))
end Go.Proofs.Ytjnahhalgckggaa
