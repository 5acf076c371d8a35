/- The walks of impl's other primitives. Conditions: the values can be read. -/
import Derived.Test.YtjnahhalgckggaaAk
namespace Go.Proofs.Ytjnahhalgckggaa
open Go.RowKit Go.PlainAid


set_option maxRecDepth 100000 in
set_option maxHeartbeats 2000000 in
theorem division_any (f : Nat) (op : Int → Int → Int) (x y : MV) (hf : y.num ≠ 0 → ∀ W, Calls Try.prog f #[.int .i64 x.num, .int .i64 y.num] W fun e w' => e = .returned (.int .i64 (op x.num y.num)) ∧ Below W.heap.size W w') (hcf : ∀ (x0 x1 : Value) (W : World), (callFunc f #[x0, x1]).run Try.prog W = .ok (.enter f #[x0, x1]) W)
    (lo B2 B b off cap : Nat) (w : World) (hB2 : w.cell? ⟨B2, 0, none⟩ = some (.func (.func 63) #[] #[.pointer (some ⟨B, 0, none⟩)])) (hBn2 : B2 < w.heap.size) (hB : w.cell? ⟨B, 0, none⟩ = some (.func (.func f) #[] #[])) (hBn : B < w.heap.size) (hx : CellsMv w lo b off x) (hy : CellsMv w lo b (off + 3) y) (hb : b < w.heap.size) :
    Calls Try.prog 64 #[.slice (some ⟨b, off, none⟩) 2 cap, .pointer (some ⟨B2, 0, none⟩)] w fun e w' => PPost (if y.num = 0 then (⟨0, 0, []⟩, 1) else (⟨1, op x.num y.num, []⟩, 0)) w e w' := by
  have HNUM := hide (fun (h : y.num ≠ 0) (W : World) (hw : Below w.heap.size w W) => number_any f op x y (hf h) hcf lo B b off cap W ((hw.cell (p := ⟨B, 0, none⟩) hBn).trans hB) (Nat.lt_of_lt_of_le hBn hw.size) (hx.kept hw hb) (hy.kept hw hb) (Nat.lt_of_lt_of_le hb hw.size))
  have hc63 : ∀ (x0 x1 : Value) (W : World), (callFunc 63 #[x0, x1]).run Try.prog W = .ok (.enter 63 #[x0, x1]) W := fun _ _ _ => by kernel_rfl
  obtain ⟨yk, yn, yr⟩ := y
  obtain ⟨sa, sc, s0, s1, s2, s3, s4⟩ := hy
  dsimp only at s1 HNUM ⊢
  obtain ⟨v, hv⟩ : ∃ v, op x.num yn = v := ⟨_, rfl⟩
  rw [hv] at HNUM ⊢
  clear hf hcf hB hx s0 s2 s3 s4 hv
  by_cases h0 : yn = 0
  · subst h0
    rw [if_pos rfl]
    go_enter Try.func64, Try.ntmps64
    go_wp2
    refine bodyPost_ret (v := .tuple #[mv0 0 0, .int .i64 1]) (by simp [results, Try.results64, go_sem]) rfl (.plain (below_new _ _))
  · rw [if_neg h0]
    have HN := hide (unhide HNUM h0)
    clear HNUM
    go_enter Try.func64, Try.ntmps64
    go_wp2_with fail
    refine (unhide HN _ (below_new _ _)).mono ?_
    rintro r w2 ⟨u, rfl, hu, hb2⟩
    obtain ⟨ua, uc, rfl⟩ := hu.form
    dsimp only
    have hblk : Blk w2 w.heap.size [Value.int .i64 0, Value.int .i64 0, Value.slice none 0 0] := (Blk.new w [Value.int .i64 0, Value.int .i64 0, Value.slice none 0 0] 28).below hb2 (by simp)
    have HBB := hide ((below_new w _).trans (hb2.mono (by simp)))
    have q0 := hblk.cellAt (i := 0) rfl
    have q1 := hblk.cellAt (i := 1) rfl
    have q2 := hblk.cellAt (i := 2) rfl
    have f0 := hblk.2 0
    have f1 := hblk.2 1
    have f2 := hblk.2 2
    have HBLK := hide hblk
    clear hblk hb2
    have HU := hide hu
    clear hu
    go_wp2
    have hn := (((unhide HBLK).set 0 (.int .i64 1) (by simp)).set 1 (.int .i64 v) (by simp)).set 2 (.slice ua 0 uc) (by simp)
    have hFB := (((unhide HBB).setCell (p := ⟨w.heap.size, 0, none⟩) (Nat.le_refl _) (.int .i64 1)).setCell (p := ⟨w.heap.size, 1, none⟩) (Nat.le_refl _) (.int .i64 v)).setCell (p := ⟨w.heap.size, 2, none⟩) (Nat.le_refl _) (.slice ua 0 uc)
    obtain ⟨FW, hF⟩ : ∃ FW, FW = ((w2.setCell ⟨w.heap.size, 0, none⟩ (.int .i64 1)).setCell ⟨w.heap.size, 1, none⟩ (.int .i64 v)).setCell ⟨w.heap.size, 2, none⟩ (.slice ua 0 uc) := ⟨_, rfl⟩
    rw [← hF] at hn hFB ⊢
    have g0 := hn.cellAt (i := 0) rfl
    have g1 := hn.cellAt (i := 1) rfl
    have g2 := hn.cellAt (i := 2) rfl
    refine bodyPost_ret (v := .tuple #[.agg #[.int .i64 1, .int .i64 v, .slice ua 0 uc], .int .i64 0]) (by simp [results, Try.results64, go_sem, g0, g1, g2]) rfl ?_
    exact ⟨_, rfl, ⟨ua, uc, rfl, .inl rfl⟩, hFB⟩

set_option maxHeartbeats 2000000 in
theorem lit11_any (lo b off cap : Nat) (x : MV) (w : World) (hx : CellsMv w lo b off x) (hb : b < w.heap.size) : Calls Try.prog 52 #[.slice (some ⟨b, off, none⟩) 1 cap] w fun e w' => PPost (⟨2, boolI (x.num == 0), []⟩, 0) w e w' := by
  obtain ⟨xk, xn, xr⟩ := x
  obtain ⟨pa, pc, p0, p1, p2, p3, p4⟩ := hx
  dsimp only at p1 p2 p3 ⊢
  clear p4
  obtain ⟨L, hL⟩ : ∃ L, xr.length = L := ⟨_, rfl⟩
  rw [hL] at p2 p3
  go_enter Try.func52, Try.ntmps52
  go_wp2_with fail
  refine (meanBool_any _ _).mono ?_
  rintro r w2 ⟨rfl, hb2⟩
  have hblk : Blk w2 w.heap.size [Value.int .i64 0, Value.int .i64 0, Value.slice none 0 0] := (Blk.new w [Value.int .i64 0, Value.int .i64 0, Value.slice none 0 0] 28).below hb2 (by simp)
  have HBB := hide ((below_new w _).trans (hb2.mono (by simp)))
  have q0 := hblk.cellAt (i := 0) rfl
  have q1 := hblk.cellAt (i := 1) rfl
  have q2 := hblk.cellAt (i := 2) rfl
  have f0 := hblk.2 0
  have f1 := hblk.2 1
  have f2 := hblk.2 2
  have HBLK := hide hblk
  clear hblk hb2
  go_wp2
  have hn := (((unhide HBLK).set 0 (.int .i64 2) (by simp)).set 1 (.int .i64 (boolI (xn == 0))) (by simp)).set 2 (.slice none 0 0) (by simp)
  have hFB := (((unhide HBB).setCell (p := ⟨w.heap.size, 0, none⟩) (Nat.le_refl _) (.int .i64 2)).setCell (p := ⟨w.heap.size, 1, none⟩) (Nat.le_refl _) (.int .i64 (boolI (xn == 0)))).setCell (p := ⟨w.heap.size, 2, none⟩) (Nat.le_refl _) (.slice none 0 0)
  obtain ⟨FW, hF⟩ : ∃ FW, FW = ((w2.setCell ⟨w.heap.size, 0, none⟩ (.int .i64 2)).setCell ⟨w.heap.size, 1, none⟩ (.int .i64 (boolI (xn == 0)))).setCell ⟨w.heap.size, 2, none⟩ (.slice none 0 0) := ⟨_, rfl⟩
  rw [← hF] at hn hFB ⊢
  have g0 := hn.cellAt (i := 0) rfl
  have g1 := hn.cellAt (i := 1) rfl
  have g2 := hn.cellAt (i := 2) rfl
  refine bodyPost_ret (v := .tuple #[.agg #[.int .i64 2, .int .i64 (boolI (xn == 0)), .slice none 0 0], .int .i64 0]) (by simp [results, Try.results52, go_sem, g0, g1, g2]) rfl (.plain hFB)

set_option maxHeartbeats 2000000 in
theorem lit12_any (lo b off cap : Nat) (x : MV) (w : World) (hx : CellsMv w lo b off x) (hb : b < w.heap.size) : Calls Try.prog 54 #[.slice (some ⟨b, off, none⟩) 1 cap] w fun e w' => PPost (⟨1, x.row.length, []⟩, 0) w e w' := by
  obtain ⟨xk, xn, xr⟩ := x
  obtain ⟨pa, pc, p0, p1, p2, p3, p4⟩ := hx
  dsimp only at p1 p2 p3 ⊢
  clear p4
  obtain ⟨L, hL⟩ : ∃ L, xr.length = L := ⟨_, rfl⟩
  rw [hL] at p2 p3 ⊢
  go_enter Try.func54, Try.ntmps54
  go_wp2_with fail
  refine (meanInt_any _ _).mono ?_
  rintro r w2 ⟨rfl, hb2⟩
  have hblk : Blk w2 w.heap.size [Value.int .i64 0, Value.int .i64 0, Value.slice none 0 0] := (Blk.new w [Value.int .i64 0, Value.int .i64 0, Value.slice none 0 0] 28).below hb2 (by simp)
  have HBB := hide ((below_new w _).trans (hb2.mono (by simp)))
  have q0 := hblk.cellAt (i := 0) rfl
  have q1 := hblk.cellAt (i := 1) rfl
  have q2 := hblk.cellAt (i := 2) rfl
  have f0 := hblk.2 0
  have f1 := hblk.2 1
  have f2 := hblk.2 2
  have HBLK := hide hblk
  clear hblk hb2
  go_wp2
  have hn := (((unhide HBLK).set 0 (.int .i64 1) (by simp)).set 1 (.int .i64 L) (by simp)).set 2 (.slice none 0 0) (by simp)
  have hFB := (((unhide HBB).setCell (p := ⟨w.heap.size, 0, none⟩) (Nat.le_refl _) (.int .i64 1)).setCell (p := ⟨w.heap.size, 1, none⟩) (Nat.le_refl _) (.int .i64 L)).setCell (p := ⟨w.heap.size, 2, none⟩) (Nat.le_refl _) (.slice none 0 0)
  obtain ⟨FW, hF⟩ : ∃ FW, FW = ((w2.setCell ⟨w.heap.size, 0, none⟩ (.int .i64 1)).setCell ⟨w.heap.size, 1, none⟩ (.int .i64 L)).setCell ⟨w.heap.size, 2, none⟩ (.slice none 0 0) := ⟨_, rfl⟩
  rw [← hF] at hn hFB ⊢
  have g0 := hn.cellAt (i := 0) rfl
  have g1 := hn.cellAt (i := 1) rfl
  have g2 := hn.cellAt (i := 2) rfl
  refine bodyPost_ret (v := .tuple #[.agg #[.int .i64 1, .int .i64 L, .slice none 0 0], .int .i64 0]) (by simp [results, Try.results54, go_sem, g0, g1, g2]) rfl (.plain hFB)

set_option maxHeartbeats 2000000 in
theorem lit13_any (lo b off cap : Nat) (x : MV) (w : World) (hx : CellsMv w lo b off x) (hb : b < w.heap.size) : Calls Try.prog 56 #[.slice (some ⟨b, off, none⟩) 1 cap] w fun e w' => PPost (⟨1, x.num, []⟩, 0) w e w' := by
  obtain ⟨xk, xn, xr⟩ := x
  obtain ⟨pa, pc, p0, p1, p2, p3, p4⟩ := hx
  dsimp only at p1 p2 p3 ⊢
  clear p4
  obtain ⟨L, hL⟩ : ∃ L, xr.length = L := ⟨_, rfl⟩
  rw [hL] at p2 p3
  go_enter Try.func56, Try.ntmps56
  go_wp2_with fail
  refine (meanInt_any _ _).mono ?_
  rintro r w2 ⟨rfl, hb2⟩
  have hblk : Blk w2 w.heap.size [Value.int .i64 0, Value.int .i64 0, Value.slice none 0 0] := (Blk.new w [Value.int .i64 0, Value.int .i64 0, Value.slice none 0 0] 28).below hb2 (by simp)
  have HBB := hide ((below_new w _).trans (hb2.mono (by simp)))
  have q0 := hblk.cellAt (i := 0) rfl
  have q1 := hblk.cellAt (i := 1) rfl
  have q2 := hblk.cellAt (i := 2) rfl
  have f0 := hblk.2 0
  have f1 := hblk.2 1
  have f2 := hblk.2 2
  have HBLK := hide hblk
  clear hblk hb2
  go_wp2
  have hn := (((unhide HBLK).set 0 (.int .i64 1) (by simp)).set 1 (.int .i64 xn) (by simp)).set 2 (.slice none 0 0) (by simp)
  have hFB := (((unhide HBB).setCell (p := ⟨w.heap.size, 0, none⟩) (Nat.le_refl _) (.int .i64 1)).setCell (p := ⟨w.heap.size, 1, none⟩) (Nat.le_refl _) (.int .i64 xn)).setCell (p := ⟨w.heap.size, 2, none⟩) (Nat.le_refl _) (.slice none 0 0)
  obtain ⟨FW, hF⟩ : ∃ FW, FW = ((w2.setCell ⟨w.heap.size, 0, none⟩ (.int .i64 1)).setCell ⟨w.heap.size, 1, none⟩ (.int .i64 xn)).setCell ⟨w.heap.size, 2, none⟩ (.slice none 0 0) := ⟨_, rfl⟩
  rw [← hF] at hn hFB ⊢
  have g0 := hn.cellAt (i := 0) rfl
  have g1 := hn.cellAt (i := 1) rfl
  have g2 := hn.cellAt (i := 2) rfl
  refine bodyPost_ret (v := .tuple #[.agg #[.int .i64 1, .int .i64 xn, .slice none 0 0], .int .i64 0]) (by simp [results, Try.results56, go_sem, g0, g1, g2]) rfl (.plain hFB)

set_option maxHeartbeats 1000000 in
theorem meanHas_any (a : Option Addr) (l c : Nat) (p : Int) (w : World) : Calls Try.prog 66 #[.slice a l c, .int .i64 p] w fun e w' => e = .returned (.bool (decide (0 ≤ p ∧ p < l))) ∧ Below w.heap.size w w' := by
  obtain ⟨R, hR⟩ : ∃ R, decide (0 ≤ p ∧ p < l) = R := ⟨_, rfl⟩
  rw [hR]
  by_cases h0 : 0 ≤ p
  · by_cases h1 : p < l
    · have HX : Hid (R = true) := hide (by rw [← hR]; exact decide_eq_true ⟨h0, h1⟩)
      go_enter Try.func66, Try.ntmps66
      go_wp2
      go_ret
      exact ⟨ret_bool (by rw [unhide HX]), Below.refl _ _⟩
    · have HX : Hid (R = false) := hide (by rw [← hR]; exact decide_eq_false (fun h => h1 h.2))
      go_enter Try.func66, Try.ntmps66
      go_wp2
      go_ret
      exact ⟨ret_bool (by rw [unhide HX]), Below.refl _ _⟩
  · have HX : Hid (R = false) := hide (by rw [← hR]; exact decide_eq_false (fun h => h0 h.1))
    go_enter Try.func66, Try.ntmps66
    go_wp2
    go_ret
    exact ⟨ret_bool (by rw [unhide HX]), Below.refl _ _⟩

set_option maxRecDepth 100000 in
set_option maxHeartbeats 2000000 in
theorem meanAt_any (lo b off cap : Nat) (x y : MV) (w : World) (hx : CellsMv w lo b off x) (hy : CellsMv w lo b (off + 3) y) (hb : b < w.heap.size) : Calls Try.prog 57 #[.slice (some ⟨b, off, none⟩) 2 cap] w fun e w' => PPost (if 0 ≤ y.num ∧ y.num < x.row.length then (⟨1, x.row.getD y.num.toNat 0, []⟩, 0) else (⟨0, 0, []⟩, 2)) w e w' := by
  obtain ⟨a0, c0, p0, p1, p2, p3, p4⟩ := hx
  obtain ⟨a1, c1, r0, r1, r2, r3, r4⟩ := hy
  have HH := hide (fun p W => meanHas_any a0 x.row.length c0 p W)
  obtain ⟨pl, hpl⟩ : ∃ p, y.num = p := ⟨_, rfl⟩
  rw [hpl] at r1 ⊢
  obtain ⟨R, hR⟩ : ∃ R, (if 0 ≤ pl ∧ pl < x.row.length then ((⟨1, x.row.getD pl.toNat 0, []⟩ : MV), (0 : Int)) else (⟨0, 0, []⟩, 2)) = R := ⟨_, rfl⟩
  rw [hR]
  clear p0 p1 r0 r2 r3 r4
  by_cases g : 0 ≤ pl ∧ pl < x.row.length
  · obtain ⟨q, hq⟩ := Int.eq_ofNat_of_zero_le g.1
    subst hq
    have hq : q < x.row.length := by omega
    obtain ⟨z, hz⟩ : ∃ z, x.row[q] = z := ⟨_, rfl⟩
    have HX : Hid (R = (⟨1, z, []⟩, 0)) := hide (by rw [← hR, if_pos g]; simp [List.getD, hq, hz])
    rcases p4 with h | ⟨bb, oo, rfl, hbl, hbn, hcs⟩
    · rw [h] at hq; simp at hq
    have hc := hcs q hq
    rw [hz] at hc
    have HG := hide (fun W => unhide HH (q : Int) W)
    rw [decide_eq_true g] at HG
    clear hR hcs hz HH
    obtain ⟨L0, hL0⟩ : ∃ L, x.row.length = L := ⟨_, rfl⟩
    rw [hL0] at p2 p3 g hq HG
    go_enter Try.func57, Try.ntmps57
    go_wp2
    try go_region
    go_wp2_with fail
    refine (unhide HG _).mono ?_
    rintro r w1 ⟨rfl, hb1⟩
    have hbd : Below (w.heap.size + 1) (w.alloc (.cells #[Value.int .i64 0, Value.int .i64 0, Value.slice none 0 0] 28)) w1 := (Below.refl _ _).drew.trans (hb1.mono (by simp))
    have HKK := hide ((Blk.new w [Value.int .i64 0, Value.int .i64 0, Value.slice none 0 0] 28).below hbd (Nat.lt_succ_self _))
    have HBW := hide ((below_new w _).trans (hbd.mono (Nat.le_succ _)))
    have HS1 : Hid (w.heap.size + 1 ≤ w1.heap.size) := hide (by have := hbd.size; rw [alloc_size] at this; exact this)
    have hc1 : w1.cell? ⟨bb, oo + q, none⟩ = some (.int .i64 z) := ((unhide HBW).cell (p := ⟨bb, oo + q, none⟩) hbn).trans hc
    clear hb1 hbd
    go_wp2_with fail
    refine (meanInt_any _ _).mono ?_
    rintro r w2 ⟨rfl, hb2⟩
    have hblk := (unhide HKK).below hb2 (unhide HS1)
    have q0 := hblk.cellAt (i := 0) rfl
    have q1 := hblk.cellAt (i := 1) rfl
    have q2 := hblk.cellAt (i := 2) rfl
    have f0 := hblk.2 0
    have f1 := hblk.2 1
    have f2 := hblk.2 2
    have HBLK := hide hblk
    have HBB := hide ((unhide HBW).trans (hb2.mono (unhide HBW).size))
    clear hblk hb2
    go_wp2
    have hn := (((unhide HBLK).set 0 (.int .i64 1) (by simp)).set 1 (.int .i64 z) (by simp)).set 2 (.slice none 0 0) (by simp)
    have hFB := (((unhide HBB).setCell (p := ⟨w.heap.size, 0, none⟩) (Nat.le_refl _) (.int .i64 1)).setCell (p := ⟨w.heap.size, 1, none⟩) (Nat.le_refl _) (.int .i64 z)).setCell (p := ⟨w.heap.size, 2, none⟩) (Nat.le_refl _) (.slice none 0 0)
    obtain ⟨FW, hF⟩ : ∃ FW, FW = ((w2.setCell ⟨w.heap.size, 0, none⟩ (.int .i64 1)).setCell ⟨w.heap.size, 1, none⟩ (.int .i64 z)).setCell ⟨w.heap.size, 2, none⟩ (.slice none 0 0) := ⟨_, rfl⟩
    rw [← hF] at hn hFB ⊢
    have g0 := hn.cellAt (i := 0) rfl
    have g1 := hn.cellAt (i := 1) rfl
    have g2 := hn.cellAt (i := 2) rfl
    refine bodyPost_ret (v := .tuple #[.agg #[.int .i64 1, .int .i64 z, .slice none 0 0], .int .i64 0]) (by simp [results, Try.results57, go_sem, g0, g1, g2]) rfl ?_
    rw [unhide HX]
    exact .plain hFB
  · have HX : Hid (R = (⟨0, 0, []⟩, 2)) := hide (by rw [← hR, if_neg g])
    have HG := hide (fun W => unhide HH pl W)
    rw [decide_eq_false g] at HG
    clear hR p4 HH
    obtain ⟨L0, hL0⟩ : ∃ L, x.row.length = L := ⟨_, rfl⟩
    rw [hL0] at p2 p3 HG
    go_enter Try.func57, Try.ntmps57
    go_wp2
    try go_region
    go_wp2_with fail
    refine (unhide HG _).mono ?_
    rintro r w1 ⟨rfl, hb1⟩
    have hbd : Below (w.heap.size + 1) (w.alloc (.cells #[Value.int .i64 0, Value.int .i64 0, Value.slice none 0 0] 28)) w1 := (Below.refl _ _).drew.trans (hb1.mono (by simp))
    have HKK := hide ((Blk.new w [Value.int .i64 0, Value.int .i64 0, Value.slice none 0 0] 28).below hbd (Nat.lt_succ_self _))
    have HBW := hide ((below_new w _).trans (hbd.mono (Nat.le_succ _)))
    have HS1 : Hid (w.heap.size + 1 ≤ w1.heap.size) := hide (by have := hbd.size; rw [alloc_size] at this; exact this)
    have hblk := unhide HKK
    have q0 := hblk.cellAt (i := 0) rfl
    have q1 := hblk.cellAt (i := 1) rfl
    have q2 := hblk.cellAt (i := 2) rfl
    have f0 := hblk.2 0
    have f1 := hblk.2 1
    have f2 := hblk.2 2
    have HBLK := HKK
    have HBB := HBW
    clear hblk hb1 hbd
    go_wp2
    have hn := (((unhide HBLK).set 0 (.int .i64 0) (by simp)).set 1 (.int .i64 0) (by simp)).set 2 (.slice none 0 0) (by simp)
    have hFB := (((unhide HBB).setCell (p := ⟨w.heap.size, 0, none⟩) (Nat.le_refl _) (.int .i64 0)).setCell (p := ⟨w.heap.size, 1, none⟩) (Nat.le_refl _) (.int .i64 0)).setCell (p := ⟨w.heap.size, 2, none⟩) (Nat.le_refl _) (.slice none 0 0)
    obtain ⟨FW, hF⟩ : ∃ FW, FW = ((w1.setCell ⟨w.heap.size, 0, none⟩ (.int .i64 0)).setCell ⟨w.heap.size, 1, none⟩ (.int .i64 0)).setCell ⟨w.heap.size, 2, none⟩ (.slice none 0 0) := ⟨_, rfl⟩
    rw [← hF] at hn hFB ⊢
    have g0 := hn.cellAt (i := 0) rfl
    have g1 := hn.cellAt (i := 1) rfl
    have g2 := hn.cellAt (i := 2) rfl
    refine bodyPost_ret (v := .tuple #[.agg #[.int .i64 0, .int .i64 0, .slice none 0 0], .int .i64 2]) (by simp [results, Try.results57, go_sem, g0, g1, g2]) rfl ?_
    rw [unhide HX]
    exact .plain hFB
end Go.Proofs.Ytjnahhalgckggaa
