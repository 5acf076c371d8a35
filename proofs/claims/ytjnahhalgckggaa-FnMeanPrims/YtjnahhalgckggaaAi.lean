/- The walks of l6Prim and spec.MeanPrim. Conditions: the values can be read. -/
import Derived.Test.YtjnahhalgckggaaAh
namespace Go.Proofs.Ytjnahhalgckggaa
open Go.RowKit Go.PlainAid

theorem CellsMv.kept {w w' : World} {lo b o : Nat} {x : MV} (h : CellsMv w lo b o x) (hb : Below w.heap.size w w') (hbn : b < w.heap.size) : CellsMv w' lo b o x := by
  obtain ⟨aa, ca, d0, d1, d2, d3, d4⟩ := h
  exact ⟨aa, ca, (hb.cell (p := ⟨b, o, none⟩) hbn).trans d0, (hb.cell (p := ⟨b, o + 1, none⟩) hbn).trans d1, (hb.cell (p := ⟨b, o + 2, none⟩) hbn).trans d2, d3, d4.kept hb hb.size⟩

set_option maxRecDepth 100000 in
set_option maxHeartbeats 2000000 in
theorem l6Prim_calc (s : ByteArray) (n : Nat) (hs : primN s.toList = n) (lo b off cap : Nat) (x y : MV) (w : World) (hx : CellsMv w lo b off x) (hy : CellsMv w lo b (off + 3) y) (hb : b < w.heap.size) (h1 : 1 ≤ n) (h8 : n ≤ 8) :
    Calls Try.prog 24 #[.string s, .slice (some ⟨b, off, none⟩) 2 cap] w fun e w' => PPost (⟨(calcR n x.num y.num).1, (calcR n x.num y.num).2.1, []⟩, (calcR n x.num y.num).2.2) w e w' := by
  obtain ⟨xk, xn, xr⟩ := x
  obtain ⟨yk, yn, yr⟩ := y
  dsimp only
  have HC := hide (fun W => l6Calc_any n xn yn W h1 h8)
  obtain ⟨⟨kd, nu, co⟩, hR⟩ : ∃ R, calcR n xn yn = R := ⟨_, rfl⟩
  rw [hR] at HC ⊢
  dsimp only at HC ⊢
  have HP := hide (fun W => l2Prim_any s W)
  rw [hs] at HP
  go_enter Try.func24, Try.ntmps24
  go_wp2_with fail
  refine (unhide HP _).mono ?_
  rintro r w1 ⟨rfl, hb1⟩
  have HB1 := hide ((below_new w _).trans (hb1.mono (by simp)))
  have HK1 := hide ((Blk.new w [Value.int .i64 0, Value.int .i64 0, Value.slice none 0 0] 28).below hb1 (by simp))
  have HS1 : Hid (w.heap.size + 1 ≤ w1.heap.size) := hide (by have := hb1.size; rw [alloc_size] at this; exact this)
  have hB1 := unhide HB1
  obtain ⟨pa, pc, p0, p1, p2, p3, p4⟩ := (hx.kept hB1 hb)
  clear p3 p4
  dsimp only at p0 p1 p2
  obtain ⟨sa, sc, s0, s1, s2, s3, s4⟩ := (hy.kept hB1 hb)
  clear s3 s4
  dsimp only at s0 s1 s2
  clear hx hy hR hs hb1 hB1
  go_wp2
  go_region_law (go_simp; refine (unhide HC _).mono ?_; rintro r w2 ⟨rfl, hb2⟩; have hbd : Below (w.heap.size + 1) w1 w2 := (Below.refl _ _).drew.trans (hb2.mono (unhide HS1)); have hblk := (unhide HK1).below hbd (Nat.lt_succ_self _); have HBB := hide ((unhide HB1).trans (hbd.mono (Nat.le_succ _))); have q0 := hblk.cellAt (i := 0) rfl; have q1 := hblk.cellAt (i := 1) rfl; have q2 := hblk.cellAt (i := 2) rfl; have f0 := hblk.2 0; have f1 := hblk.2 1; have f2 := hblk.2 2; have HBLK := hide hblk; clear hblk hb2 hbd)
  all_goals
    go_wp2
    have hn := (((unhide HBLK).set 0 (.int .i64 kd) (by simp)).set 1 (.int .i64 nu) (by simp)).set 2 (.slice none 0 0) (by simp)
    have hFB := (((unhide HBB).setCell (p := ⟨w.heap.size, 0, none⟩) (Nat.le_refl _) (.int .i64 kd)).setCell (p := ⟨w.heap.size, 1, none⟩) (Nat.le_refl _) (.int .i64 nu)).setCell (p := ⟨w.heap.size, 2, none⟩) (Nat.le_refl _) (.slice none 0 0)
    obtain ⟨FW, hF⟩ : ∃ FW, FW = ((w2.setCell ⟨w.heap.size, 0, none⟩ (.int .i64 kd)).setCell ⟨w.heap.size, 1, none⟩ (.int .i64 nu)).setCell ⟨w.heap.size, 2, none⟩ (.slice none 0 0) := ⟨_, rfl⟩
    rw [← hF] at hn hFB ⊢
    have g0 := hn.cellAt (i := 0) rfl
    have g1 := hn.cellAt (i := 1) rfl
    have g2 := hn.cellAt (i := 2) rfl
    refine bodyPost_ret (v := .tuple #[.agg #[.int .i64 kd, .int .i64 nu, .slice none 0 0], .int .i64 co]) (by simp [results, Try.results24, go_sem, g0, g1, g2]) rfl (.plain hFB)

set_option maxRecDepth 100000 in
set_option maxHeartbeats 2000000 in
theorem l6Prim_9 (s : ByteArray) (hs : primN s.toList = 9) (lo b off cap : Nat) (x : MV) (w : World) (hx : CellsMv w lo b off x) (hb : b < w.heap.size) :
    Calls Try.prog 24 #[.string s, .slice (some ⟨b, off, none⟩) 1 cap] w fun e w' => PPost (⟨2, boolI (x.num == 0), []⟩, 0) w e w' := by
  obtain ⟨xk, xn, xr⟩ := x
  dsimp only
  have HP := hide (fun W => l2Prim_any s W)
  rw [hs] at HP
  go_enter Try.func24, Try.ntmps24
  go_wp2_with fail
  refine (unhide HP _).mono ?_
  rintro r w1 ⟨rfl, hb1⟩
  have HB1 := hide ((below_new w _).trans (hb1.mono (by simp)))
  have HK1 := hide ((Blk.new w [Value.int .i64 0, Value.int .i64 0, Value.slice none 0 0] 28).below hb1 (by simp))
  have HS1 : Hid (w.heap.size + 1 ≤ w1.heap.size) := hide (by have := hb1.size; rw [alloc_size] at this; exact this)
  have hB1 := unhide HB1
  obtain ⟨pa, pc, p0, p1, p2, p3, p4⟩ := (hx.kept hB1 hb)
  clear p3 p4
  dsimp only at p0 p1 p2
  clear hx hs hb1 hB1
  go_wp2_with fail
  refine (l6Bool_any _ _).mono ?_
  rintro r w2 ⟨rfl, hb2⟩
  have hblk := (unhide HK1).below hb2 (by have := unhide HS1; omega)
  have HBB := hide ((unhide HB1).trans (hb2.mono (unhide HB1).size))
  have q0 := hblk.cellAt (i := 0) rfl
  have q1 := hblk.cellAt (i := 1) rfl
  have q2 := hblk.cellAt (i := 2) rfl
  have f0 := hblk.2 0
  have f1 := hblk.2 1
  have f2 := hblk.2 2
  have HBLK := hide hblk
  clear hblk hb2
  go_wp2
  have hn := (((unhide HBLK).set 0 (.int .i64 2) (by simp)).set 1 (.int .i64 (boolI (xn == 0))) (by simp)).set 2 (.slice none 0 0) (by simp)
  have hFB := (((unhide HBB).setCell (p := ⟨w.heap.size, 0, none⟩) (Nat.le_refl _) (.int .i64 2)).setCell (p := ⟨w.heap.size, 1, none⟩) (Nat.le_refl _) (.int .i64 (boolI (xn == 0)))).setCell (p := ⟨w.heap.size, 2, none⟩) (Nat.le_refl _) (.slice none 0 0)
  obtain ⟨FW, hF⟩ : ∃ FW, FW = ((w2.setCell ⟨w.heap.size, 0, none⟩ (.int .i64 2)).setCell ⟨w.heap.size, 1, none⟩ (.int .i64 (boolI (xn == 0)))).setCell ⟨w.heap.size, 2, none⟩ (.slice none 0 0) := ⟨_, rfl⟩
  rw [← hF] at hn hFB ⊢
  have g0 := hn.cellAt (i := 0) rfl
  have g1 := hn.cellAt (i := 1) rfl
  have g2 := hn.cellAt (i := 2) rfl
  refine bodyPost_ret (v := .tuple #[.agg #[.int .i64 2, .int .i64 (boolI (xn == 0)), .slice none 0 0], .int .i64 0]) (by simp [results, Try.results24, go_sem, g0, g1, g2]) rfl (.plain hFB)

set_option maxRecDepth 100000 in
set_option maxHeartbeats 2000000 in
theorem l6Prim_14 (s : ByteArray) (hs : primN s.toList = 14) (lo b off cap : Nat) (x : MV) (w : World) (hx : CellsMv w lo b off x) (hb : b < w.heap.size) :
    Calls Try.prog 24 #[.string s, .slice (some ⟨b, off, none⟩) 1 cap] w fun e w' => PPost (⟨1, x.num, []⟩, 0) w e w' := by
  obtain ⟨xk, xn, xr⟩ := x
  dsimp only
  have HP := hide (fun W => l2Prim_any s W)
  rw [hs] at HP
  go_enter Try.func24, Try.ntmps24
  go_wp2_with fail
  refine (unhide HP _).mono ?_
  rintro r w1 ⟨rfl, hb1⟩
  have HB1 := hide ((below_new w _).trans (hb1.mono (by simp)))
  have HK1 := hide ((Blk.new w [Value.int .i64 0, Value.int .i64 0, Value.slice none 0 0] 28).below hb1 (by simp))
  have HS1 : Hid (w.heap.size + 1 ≤ w1.heap.size) := hide (by have := hb1.size; rw [alloc_size] at this; exact this)
  have hB1 := unhide HB1
  obtain ⟨pa, pc, p0, p1, p2, p3, p4⟩ := (hx.kept hB1 hb)
  clear p3 p4
  dsimp only at p0 p1 p2
  clear hx hs hb1 hB1
  go_wp2_with fail
  refine (l6Int_any _ _).mono ?_
  rintro r w2 ⟨rfl, hb2⟩
  have hblk := (unhide HK1).below hb2 (by have := unhide HS1; omega)
  have HBB := hide ((unhide HB1).trans (hb2.mono (unhide HB1).size))
  have q0 := hblk.cellAt (i := 0) rfl
  have q1 := hblk.cellAt (i := 1) rfl
  have q2 := hblk.cellAt (i := 2) rfl
  have f0 := hblk.2 0
  have f1 := hblk.2 1
  have f2 := hblk.2 2
  have HBLK := hide hblk
  clear hblk hb2
  go_wp2
  have hn := (((unhide HBLK).set 0 (.int .i64 1) (by simp)).set 1 (.int .i64 xn) (by simp)).set 2 (.slice none 0 0) (by simp)
  have hFB := (((unhide HBB).setCell (p := ⟨w.heap.size, 0, none⟩) (Nat.le_refl _) (.int .i64 1)).setCell (p := ⟨w.heap.size, 1, none⟩) (Nat.le_refl _) (.int .i64 xn)).setCell (p := ⟨w.heap.size, 2, none⟩) (Nat.le_refl _) (.slice none 0 0)
  obtain ⟨FW, hF⟩ : ∃ FW, FW = ((w2.setCell ⟨w.heap.size, 0, none⟩ (.int .i64 1)).setCell ⟨w.heap.size, 1, none⟩ (.int .i64 xn)).setCell ⟨w.heap.size, 2, none⟩ (.slice none 0 0) := ⟨_, rfl⟩
  rw [← hF] at hn hFB ⊢
  have g0 := hn.cellAt (i := 0) rfl
  have g1 := hn.cellAt (i := 1) rfl
  have g2 := hn.cellAt (i := 2) rfl
  refine bodyPost_ret (v := .tuple #[.agg #[.int .i64 1, .int .i64 xn, .slice none 0 0], .int .i64 0]) (by simp [results, Try.results24, go_sem, g0, g1, g2]) rfl (.plain hFB)

set_option maxRecDepth 100000 in
set_option maxHeartbeats 2000000 in
theorem l6Prim_15 (s : ByteArray) (hs : primN s.toList = 15) (lo b off cap : Nat) (x y : MV) (w : World) (hx : CellsMv w lo b off x) (hy : CellsMv w lo b (off + 3) y) (hb : b < w.heap.size) :
    Calls Try.prog 24 #[.string s, .slice (some ⟨b, off, none⟩) 2 cap] w fun e w' => PPost (⟨2, boolI (x.num != 0 && y.num != 0), []⟩, 0) w e w' := by
  obtain ⟨xk, xn, xr⟩ := x
  obtain ⟨yk, yn, yr⟩ := y
  dsimp only
  obtain ⟨bx, hbx⟩ : ∃ t, (xn != 0) = t := ⟨_, rfl⟩
  obtain ⟨by', hby⟩ : ∃ t, (yn != 0) = t := ⟨_, rfl⟩
  rw [hbx, hby]
  have HP := hide (fun W => l2Prim_any s W)
  rw [hs] at HP
  go_enter Try.func24, Try.ntmps24
  go_wp2_with fail
  refine (unhide HP _).mono ?_
  rintro r w1 ⟨rfl, hb1⟩
  have HB1 := hide ((below_new w _).trans (hb1.mono (by simp)))
  have HK1 := hide ((Blk.new w [Value.int .i64 0, Value.int .i64 0, Value.slice none 0 0] 28).below hb1 (by simp))
  have HS1 : Hid (w.heap.size + 1 ≤ w1.heap.size) := hide (by have := hb1.size; rw [alloc_size] at this; exact this)
  have hB1 := unhide HB1
  obtain ⟨pa, pc, p0, p1, p2, p3, p4⟩ := (hx.kept hB1 hb)
  clear p3 p4
  dsimp only at p0 p1 p2
  obtain ⟨sa, sc, s0, s1, s2, s3, s4⟩ := (hy.kept hB1 hb)
  clear s3 s4
  dsimp only at s0 s1 s2
  clear hx hy hs hb1 hB1
  cases bx <;> cases by'
  · go_wp2_with fail
    refine (l6Bool_any _ _).mono ?_
    rintro r w2 ⟨rfl, hb2⟩
    have hblk := (unhide HK1).below hb2 (by have := unhide HS1; omega)
    have HBB := hide ((unhide HB1).trans (hb2.mono (unhide HB1).size))
    have q0 := hblk.cellAt (i := 0) rfl
    have q1 := hblk.cellAt (i := 1) rfl
    have q2 := hblk.cellAt (i := 2) rfl
    have f0 := hblk.2 0
    have f1 := hblk.2 1
    have f2 := hblk.2 2
    have HBLK := hide hblk
    clear hblk hb2
    go_wp2
    have hn := (((unhide HBLK).set 0 (.int .i64 2) (by simp)).set 1 (.int .i64 (boolI false)) (by simp)).set 2 (.slice none 0 0) (by simp)
    have hFB := (((unhide HBB).setCell (p := ⟨w.heap.size, 0, none⟩) (Nat.le_refl _) (.int .i64 2)).setCell (p := ⟨w.heap.size, 1, none⟩) (Nat.le_refl _) (.int .i64 (boolI false))).setCell (p := ⟨w.heap.size, 2, none⟩) (Nat.le_refl _) (.slice none 0 0)
    obtain ⟨FW, hF⟩ : ∃ FW, FW = ((w2.setCell ⟨w.heap.size, 0, none⟩ (.int .i64 2)).setCell ⟨w.heap.size, 1, none⟩ (.int .i64 (boolI false))).setCell ⟨w.heap.size, 2, none⟩ (.slice none 0 0) := ⟨_, rfl⟩
    rw [← hF] at hn hFB ⊢
    have g0 := hn.cellAt (i := 0) rfl
    have g1 := hn.cellAt (i := 1) rfl
    have g2 := hn.cellAt (i := 2) rfl
    refine bodyPost_ret (v := .tuple #[.agg #[.int .i64 2, .int .i64 (boolI false), .slice none 0 0], .int .i64 0]) (by simp [results, Try.results24, go_sem, g0, g1, g2]) rfl (.plain hFB)
  · go_wp2_with fail
    refine (l6Bool_any _ _).mono ?_
    rintro r w2 ⟨rfl, hb2⟩
    have hblk := (unhide HK1).below hb2 (by have := unhide HS1; omega)
    have HBB := hide ((unhide HB1).trans (hb2.mono (unhide HB1).size))
    have q0 := hblk.cellAt (i := 0) rfl
    have q1 := hblk.cellAt (i := 1) rfl
    have q2 := hblk.cellAt (i := 2) rfl
    have f0 := hblk.2 0
    have f1 := hblk.2 1
    have f2 := hblk.2 2
    have HBLK := hide hblk
    clear hblk hb2
    go_wp2
    have hn := (((unhide HBLK).set 0 (.int .i64 2) (by simp)).set 1 (.int .i64 (boolI false)) (by simp)).set 2 (.slice none 0 0) (by simp)
    have hFB := (((unhide HBB).setCell (p := ⟨w.heap.size, 0, none⟩) (Nat.le_refl _) (.int .i64 2)).setCell (p := ⟨w.heap.size, 1, none⟩) (Nat.le_refl _) (.int .i64 (boolI false))).setCell (p := ⟨w.heap.size, 2, none⟩) (Nat.le_refl _) (.slice none 0 0)
    obtain ⟨FW, hF⟩ : ∃ FW, FW = ((w2.setCell ⟨w.heap.size, 0, none⟩ (.int .i64 2)).setCell ⟨w.heap.size, 1, none⟩ (.int .i64 (boolI false))).setCell ⟨w.heap.size, 2, none⟩ (.slice none 0 0) := ⟨_, rfl⟩
    rw [← hF] at hn hFB ⊢
    have g0 := hn.cellAt (i := 0) rfl
    have g1 := hn.cellAt (i := 1) rfl
    have g2 := hn.cellAt (i := 2) rfl
    refine bodyPost_ret (v := .tuple #[.agg #[.int .i64 2, .int .i64 (boolI false), .slice none 0 0], .int .i64 0]) (by simp [results, Try.results24, go_sem, g0, g1, g2]) rfl (.plain hFB)
  · go_wp2_with fail
    refine (l6Bool_any _ _).mono ?_
    rintro r w2 ⟨rfl, hb2⟩
    have hblk := (unhide HK1).below hb2 (by have := unhide HS1; omega)
    have HBB := hide ((unhide HB1).trans (hb2.mono (unhide HB1).size))
    have q0 := hblk.cellAt (i := 0) rfl
    have q1 := hblk.cellAt (i := 1) rfl
    have q2 := hblk.cellAt (i := 2) rfl
    have f0 := hblk.2 0
    have f1 := hblk.2 1
    have f2 := hblk.2 2
    have HBLK := hide hblk
    clear hblk hb2
    go_wp2
    have hn := (((unhide HBLK).set 0 (.int .i64 2) (by simp)).set 1 (.int .i64 (boolI false)) (by simp)).set 2 (.slice none 0 0) (by simp)
    have hFB := (((unhide HBB).setCell (p := ⟨w.heap.size, 0, none⟩) (Nat.le_refl _) (.int .i64 2)).setCell (p := ⟨w.heap.size, 1, none⟩) (Nat.le_refl _) (.int .i64 (boolI false))).setCell (p := ⟨w.heap.size, 2, none⟩) (Nat.le_refl _) (.slice none 0 0)
    obtain ⟨FW, hF⟩ : ∃ FW, FW = ((w2.setCell ⟨w.heap.size, 0, none⟩ (.int .i64 2)).setCell ⟨w.heap.size, 1, none⟩ (.int .i64 (boolI false))).setCell ⟨w.heap.size, 2, none⟩ (.slice none 0 0) := ⟨_, rfl⟩
    rw [← hF] at hn hFB ⊢
    have g0 := hn.cellAt (i := 0) rfl
    have g1 := hn.cellAt (i := 1) rfl
    have g2 := hn.cellAt (i := 2) rfl
    refine bodyPost_ret (v := .tuple #[.agg #[.int .i64 2, .int .i64 (boolI false), .slice none 0 0], .int .i64 0]) (by simp [results, Try.results24, go_sem, g0, g1, g2]) rfl (.plain hFB)
  · go_wp2_with fail
    refine (l6Bool_any _ _).mono ?_
    rintro r w2 ⟨rfl, hb2⟩
    have hblk := (unhide HK1).below hb2 (by have := unhide HS1; omega)
    have HBB := hide ((unhide HB1).trans (hb2.mono (unhide HB1).size))
    have q0 := hblk.cellAt (i := 0) rfl
    have q1 := hblk.cellAt (i := 1) rfl
    have q2 := hblk.cellAt (i := 2) rfl
    have f0 := hblk.2 0
    have f1 := hblk.2 1
    have f2 := hblk.2 2
    have HBLK := hide hblk
    clear hblk hb2
    go_wp2
    have hn := (((unhide HBLK).set 0 (.int .i64 2) (by simp)).set 1 (.int .i64 (boolI true)) (by simp)).set 2 (.slice none 0 0) (by simp)
    have hFB := (((unhide HBB).setCell (p := ⟨w.heap.size, 0, none⟩) (Nat.le_refl _) (.int .i64 2)).setCell (p := ⟨w.heap.size, 1, none⟩) (Nat.le_refl _) (.int .i64 (boolI true))).setCell (p := ⟨w.heap.size, 2, none⟩) (Nat.le_refl _) (.slice none 0 0)
    obtain ⟨FW, hF⟩ : ∃ FW, FW = ((w2.setCell ⟨w.heap.size, 0, none⟩ (.int .i64 2)).setCell ⟨w.heap.size, 1, none⟩ (.int .i64 (boolI true))).setCell ⟨w.heap.size, 2, none⟩ (.slice none 0 0) := ⟨_, rfl⟩
    rw [← hF] at hn hFB ⊢
    have g0 := hn.cellAt (i := 0) rfl
    have g1 := hn.cellAt (i := 1) rfl
    have g2 := hn.cellAt (i := 2) rfl
    refine bodyPost_ret (v := .tuple #[.agg #[.int .i64 2, .int .i64 (boolI true), .slice none 0 0], .int .i64 0]) (by simp [results, Try.results24, go_sem, g0, g1, g2]) rfl (.plain hFB)

set_option maxRecDepth 100000 in
set_option maxHeartbeats 2000000 in
theorem l6Prim_16 (s : ByteArray) (hs : primN s.toList = 16) (lo b off cap : Nat) (x y : MV) (w : World) (hx : CellsMv w lo b off x) (hy : CellsMv w lo b (off + 3) y) (hb : b < w.heap.size) :
    Calls Try.prog 24 #[.string s, .slice (some ⟨b, off, none⟩) 2 cap] w fun e w' => PPost (⟨2, boolI (x.num != 0 || y.num != 0), []⟩, 0) w e w' := by
  obtain ⟨xk, xn, xr⟩ := x
  obtain ⟨yk, yn, yr⟩ := y
  dsimp only
  obtain ⟨bx, hbx⟩ : ∃ t, (xn != 0) = t := ⟨_, rfl⟩
  obtain ⟨by', hby⟩ : ∃ t, (yn != 0) = t := ⟨_, rfl⟩
  rw [hbx, hby]
  have HP := hide (fun W => l2Prim_any s W)
  rw [hs] at HP
  go_enter Try.func24, Try.ntmps24
  go_wp2_with fail
  refine (unhide HP _).mono ?_
  rintro r w1 ⟨rfl, hb1⟩
  have HB1 := hide ((below_new w _).trans (hb1.mono (by simp)))
  have HK1 := hide ((Blk.new w [Value.int .i64 0, Value.int .i64 0, Value.slice none 0 0] 28).below hb1 (by simp))
  have HS1 : Hid (w.heap.size + 1 ≤ w1.heap.size) := hide (by have := hb1.size; rw [alloc_size] at this; exact this)
  have hB1 := unhide HB1
  obtain ⟨pa, pc, p0, p1, p2, p3, p4⟩ := (hx.kept hB1 hb)
  clear p3 p4
  dsimp only at p0 p1 p2
  obtain ⟨sa, sc, s0, s1, s2, s3, s4⟩ := (hy.kept hB1 hb)
  clear s3 s4
  dsimp only at s0 s1 s2
  clear hx hy hs hb1 hB1
  cases bx <;> cases by'
  · go_wp2_with fail
    refine (l6Bool_any _ _).mono ?_
    rintro r w2 ⟨rfl, hb2⟩
    have hblk := (unhide HK1).below hb2 (by have := unhide HS1; omega)
    have HBB := hide ((unhide HB1).trans (hb2.mono (unhide HB1).size))
    have q0 := hblk.cellAt (i := 0) rfl
    have q1 := hblk.cellAt (i := 1) rfl
    have q2 := hblk.cellAt (i := 2) rfl
    have f0 := hblk.2 0
    have f1 := hblk.2 1
    have f2 := hblk.2 2
    have HBLK := hide hblk
    clear hblk hb2
    go_wp2
    have hn := (((unhide HBLK).set 0 (.int .i64 2) (by simp)).set 1 (.int .i64 (boolI false)) (by simp)).set 2 (.slice none 0 0) (by simp)
    have hFB := (((unhide HBB).setCell (p := ⟨w.heap.size, 0, none⟩) (Nat.le_refl _) (.int .i64 2)).setCell (p := ⟨w.heap.size, 1, none⟩) (Nat.le_refl _) (.int .i64 (boolI false))).setCell (p := ⟨w.heap.size, 2, none⟩) (Nat.le_refl _) (.slice none 0 0)
    obtain ⟨FW, hF⟩ : ∃ FW, FW = ((w2.setCell ⟨w.heap.size, 0, none⟩ (.int .i64 2)).setCell ⟨w.heap.size, 1, none⟩ (.int .i64 (boolI false))).setCell ⟨w.heap.size, 2, none⟩ (.slice none 0 0) := ⟨_, rfl⟩
    rw [← hF] at hn hFB ⊢
    have g0 := hn.cellAt (i := 0) rfl
    have g1 := hn.cellAt (i := 1) rfl
    have g2 := hn.cellAt (i := 2) rfl
    refine bodyPost_ret (v := .tuple #[.agg #[.int .i64 2, .int .i64 (boolI false), .slice none 0 0], .int .i64 0]) (by simp [results, Try.results24, go_sem, g0, g1, g2]) rfl (.plain hFB)
  · go_wp2_with fail
    refine (l6Bool_any _ _).mono ?_
    rintro r w2 ⟨rfl, hb2⟩
    have hblk := (unhide HK1).below hb2 (by have := unhide HS1; omega)
    have HBB := hide ((unhide HB1).trans (hb2.mono (unhide HB1).size))
    have q0 := hblk.cellAt (i := 0) rfl
    have q1 := hblk.cellAt (i := 1) rfl
    have q2 := hblk.cellAt (i := 2) rfl
    have f0 := hblk.2 0
    have f1 := hblk.2 1
    have f2 := hblk.2 2
    have HBLK := hide hblk
    clear hblk hb2
    go_wp2
    have hn := (((unhide HBLK).set 0 (.int .i64 2) (by simp)).set 1 (.int .i64 (boolI true)) (by simp)).set 2 (.slice none 0 0) (by simp)
    have hFB := (((unhide HBB).setCell (p := ⟨w.heap.size, 0, none⟩) (Nat.le_refl _) (.int .i64 2)).setCell (p := ⟨w.heap.size, 1, none⟩) (Nat.le_refl _) (.int .i64 (boolI true))).setCell (p := ⟨w.heap.size, 2, none⟩) (Nat.le_refl _) (.slice none 0 0)
    obtain ⟨FW, hF⟩ : ∃ FW, FW = ((w2.setCell ⟨w.heap.size, 0, none⟩ (.int .i64 2)).setCell ⟨w.heap.size, 1, none⟩ (.int .i64 (boolI true))).setCell ⟨w.heap.size, 2, none⟩ (.slice none 0 0) := ⟨_, rfl⟩
    rw [← hF] at hn hFB ⊢
    have g0 := hn.cellAt (i := 0) rfl
    have g1 := hn.cellAt (i := 1) rfl
    have g2 := hn.cellAt (i := 2) rfl
    refine bodyPost_ret (v := .tuple #[.agg #[.int .i64 2, .int .i64 (boolI true), .slice none 0 0], .int .i64 0]) (by simp [results, Try.results24, go_sem, g0, g1, g2]) rfl (.plain hFB)
  · go_wp2_with fail
    refine (l6Bool_any _ _).mono ?_
    rintro r w2 ⟨rfl, hb2⟩
    have hblk := (unhide HK1).below hb2 (by have := unhide HS1; omega)
    have HBB := hide ((unhide HB1).trans (hb2.mono (unhide HB1).size))
    have q0 := hblk.cellAt (i := 0) rfl
    have q1 := hblk.cellAt (i := 1) rfl
    have q2 := hblk.cellAt (i := 2) rfl
    have f0 := hblk.2 0
    have f1 := hblk.2 1
    have f2 := hblk.2 2
    have HBLK := hide hblk
    clear hblk hb2
    go_wp2
    have hn := (((unhide HBLK).set 0 (.int .i64 2) (by simp)).set 1 (.int .i64 (boolI true)) (by simp)).set 2 (.slice none 0 0) (by simp)
    have hFB := (((unhide HBB).setCell (p := ⟨w.heap.size, 0, none⟩) (Nat.le_refl _) (.int .i64 2)).setCell (p := ⟨w.heap.size, 1, none⟩) (Nat.le_refl _) (.int .i64 (boolI true))).setCell (p := ⟨w.heap.size, 2, none⟩) (Nat.le_refl _) (.slice none 0 0)
    obtain ⟨FW, hF⟩ : ∃ FW, FW = ((w2.setCell ⟨w.heap.size, 0, none⟩ (.int .i64 2)).setCell ⟨w.heap.size, 1, none⟩ (.int .i64 (boolI true))).setCell ⟨w.heap.size, 2, none⟩ (.slice none 0 0) := ⟨_, rfl⟩
    rw [← hF] at hn hFB ⊢
    have g0 := hn.cellAt (i := 0) rfl
    have g1 := hn.cellAt (i := 1) rfl
    have g2 := hn.cellAt (i := 2) rfl
    refine bodyPost_ret (v := .tuple #[.agg #[.int .i64 2, .int .i64 (boolI true), .slice none 0 0], .int .i64 0]) (by simp [results, Try.results24, go_sem, g0, g1, g2]) rfl (.plain hFB)
  · go_wp2_with fail
    refine (l6Bool_any _ _).mono ?_
    rintro r w2 ⟨rfl, hb2⟩
    have hblk := (unhide HK1).below hb2 (by have := unhide HS1; omega)
    have HBB := hide ((unhide HB1).trans (hb2.mono (unhide HB1).size))
    have q0 := hblk.cellAt (i := 0) rfl
    have q1 := hblk.cellAt (i := 1) rfl
    have q2 := hblk.cellAt (i := 2) rfl
    have f0 := hblk.2 0
    have f1 := hblk.2 1
    have f2 := hblk.2 2
    have HBLK := hide hblk
    clear hblk hb2
    go_wp2
    have hn := (((unhide HBLK).set 0 (.int .i64 2) (by simp)).set 1 (.int .i64 (boolI true)) (by simp)).set 2 (.slice none 0 0) (by simp)
    have hFB := (((unhide HBB).setCell (p := ⟨w.heap.size, 0, none⟩) (Nat.le_refl _) (.int .i64 2)).setCell (p := ⟨w.heap.size, 1, none⟩) (Nat.le_refl _) (.int .i64 (boolI true))).setCell (p := ⟨w.heap.size, 2, none⟩) (Nat.le_refl _) (.slice none 0 0)
    obtain ⟨FW, hF⟩ : ∃ FW, FW = ((w2.setCell ⟨w.heap.size, 0, none⟩ (.int .i64 2)).setCell ⟨w.heap.size, 1, none⟩ (.int .i64 (boolI true))).setCell ⟨w.heap.size, 2, none⟩ (.slice none 0 0) := ⟨_, rfl⟩
    rw [← hF] at hn hFB ⊢
    have g0 := hn.cellAt (i := 0) rfl
    have g1 := hn.cellAt (i := 1) rfl
    have g2 := hn.cellAt (i := 2) rfl
    refine bodyPost_ret (v := .tuple #[.agg #[.int .i64 2, .int .i64 (boolI true), .slice none 0 0], .int .i64 0]) (by simp [results, Try.results24, go_sem, g0, g1, g2]) rfl (.plain hFB)

set_option maxRecDepth 100000 in
set_option maxHeartbeats 2000000 in
theorem l6Prim_10 (s : ByteArray) (hs : primN s.toList = 10) (lo b off cap : Nat) (x y : MV) (w : World) (hx : CellsMv w lo b off x) (hy : CellsMv w lo b (off + 3) y) (hb : b < w.heap.size) :
    Calls Try.prog 24 #[.string s, .slice (some ⟨b, off, none⟩) 2 cap] w fun e w' => PPost (if 0 ≤ y.num ∧ y.num < x.row.length then ((⟨1, x.row.getD y.num.toNat 0, []⟩ : MV), (0 : Int)) else (⟨0, 0, []⟩, 2)) w e w' := by
  obtain ⟨R, hR⟩ : ∃ R, (if 0 ≤ y.num ∧ y.num < x.row.length then ((⟨1, x.row.getD y.num.toNat 0, []⟩ : MV), (0 : Int)) else (⟨0, 0, []⟩, 2)) = R := ⟨_, rfl⟩
  rw [hR]
  have HP := hide (fun W => l2Prim_any s W)
  rw [hs] at HP
  go_enter Try.func24, Try.ntmps24
  go_wp2_with fail
  refine (unhide HP _).mono ?_
  rintro r w1 ⟨rfl, hb1⟩
  have HB1 := hide ((below_new w _).trans (hb1.mono (by simp)))
  have HK1 := hide ((Blk.new w [Value.int .i64 0, Value.int .i64 0, Value.slice none 0 0] 28).below hb1 (by simp))
  have HS1 : Hid (w.heap.size + 1 ≤ w1.heap.size) := hide (by have := hb1.size; rw [alloc_size] at this; exact this)
  have hB1 := unhide HB1
  have HC := hide (l6Rows_10 lo b off cap x y w1 (hx.kept hB1 hb) (hy.kept hB1 hb) (Nat.lt_of_lt_of_le hb hB1.size))
  rw [hR] at HC
  clear hx hy hs hb1 hB1 hR
  obtain ⟨⟨kd, nu, rw'⟩, co⟩ := R
  go_wp2_with fail
  refine (unhide HC).mono ?_
  rintro r w2 ⟨v, rfl, ho, hb2⟩
  dsimp only at ho
  obtain ⟨av, cv, rfl⟩ := ho.form
  have hblk := (unhide HK1).below hb2 (by have := unhide HS1; omega)
  have HBB := hide ((unhide HB1).trans (hb2.mono (unhide HB1).size))
  have q0 := hblk.cellAt (i := 0) rfl
  have q1 := hblk.cellAt (i := 1) rfl
  have q2 := hblk.cellAt (i := 2) rfl
  have f0 := hblk.2 0
  have f1 := hblk.2 1
  have f2 := hblk.2 2
  have HBLK := hide hblk
  have OW := hide ho
  clear hblk hb2 ho
  dsimp only
  obtain ⟨LL, hLL⟩ : ∃ t, rw'.length = t := ⟨_, rfl⟩
  rw [hLL] at OW ⊢
  clear hLL
  go_wp2
  have hn := (((unhide HBLK).set 0 (.int .i64 kd) (by simp)).set 1 (.int .i64 nu) (by simp)).set 2 (.slice av LL cv) (by simp)
  have hFB := (((unhide HBB).setCell (p := ⟨w.heap.size, 0, none⟩) (Nat.le_refl _) (.int .i64 kd)).setCell (p := ⟨w.heap.size, 1, none⟩) (Nat.le_refl _) (.int .i64 nu)).setCell (p := ⟨w.heap.size, 2, none⟩) (Nat.le_refl _) (.slice av LL cv)
  obtain ⟨FW, hF⟩ : ∃ FW, FW = ((w2.setCell ⟨w.heap.size, 0, none⟩ (.int .i64 kd)).setCell ⟨w.heap.size, 1, none⟩ (.int .i64 nu)).setCell ⟨w.heap.size, 2, none⟩ (.slice av LL cv) := ⟨_, rfl⟩
  rw [← hF] at hn hFB ⊢
  have g0 := hn.cellAt (i := 0) rfl
  have g1 := hn.cellAt (i := 1) rfl
  have g2 := hn.cellAt (i := 2) rfl
  refine bodyPost_ret (v := .tuple #[.agg #[.int .i64 kd, .int .i64 nu, .slice av LL cv], .int .i64 co]) (by simp [results, Try.results24, go_sem, g0, g1, g2]) rfl ?_
  refine ⟨_, rfl, ?_, hFB⟩
  rw [hF]
  have hS := unhide HS1
  exact (((((unhide OW).setE hS).setE hS).setE hS).same (fun _ _ _ => ⟨fun _ => rfl, fun _ => rfl⟩) (by omega) (by simp [World.setCell]))

set_option maxRecDepth 100000 in
set_option maxHeartbeats 2000000 in
theorem l6Prim_11 (s : ByteArray) (hs : primN s.toList = 11) (lo b off cap : Nat) (x : MV) (w : World) (hx : CellsMv w lo b off x) (hb : b < w.heap.size) :
    Calls Try.prog 24 #[.string s, .slice (some ⟨b, off, none⟩) 1 cap] w fun e w' => PPost (((⟨1, x.row.length, []⟩ : MV), (0 : Int))) w e w' := by
  obtain ⟨R, hR⟩ : ∃ R, (((⟨1, x.row.length, []⟩ : MV), (0 : Int))) = R := ⟨_, rfl⟩
  rw [hR]
  have HP := hide (fun W => l2Prim_any s W)
  rw [hs] at HP
  go_enter Try.func24, Try.ntmps24
  go_wp2_with fail
  refine (unhide HP _).mono ?_
  rintro r w1 ⟨rfl, hb1⟩
  have HB1 := hide ((below_new w _).trans (hb1.mono (by simp)))
  have HK1 := hide ((Blk.new w [Value.int .i64 0, Value.int .i64 0, Value.slice none 0 0] 28).below hb1 (by simp))
  have HS1 : Hid (w.heap.size + 1 ≤ w1.heap.size) := hide (by have := hb1.size; rw [alloc_size] at this; exact this)
  have hB1 := unhide HB1
  have HC := hide (l6Rows_11 lo b off cap x w1 (hx.kept hB1 hb) (Nat.lt_of_lt_of_le hb hB1.size))
  rw [hR] at HC
  clear hx hs hb1 hB1 hR
  obtain ⟨⟨kd, nu, rw'⟩, co⟩ := R
  go_wp2_with fail
  refine (unhide HC).mono ?_
  rintro r w2 ⟨v, rfl, ho, hb2⟩
  dsimp only at ho
  obtain ⟨av, cv, rfl⟩ := ho.form
  have hblk := (unhide HK1).below hb2 (by have := unhide HS1; omega)
  have HBB := hide ((unhide HB1).trans (hb2.mono (unhide HB1).size))
  have q0 := hblk.cellAt (i := 0) rfl
  have q1 := hblk.cellAt (i := 1) rfl
  have q2 := hblk.cellAt (i := 2) rfl
  have f0 := hblk.2 0
  have f1 := hblk.2 1
  have f2 := hblk.2 2
  have HBLK := hide hblk
  have OW := hide ho
  clear hblk hb2 ho
  dsimp only
  obtain ⟨LL, hLL⟩ : ∃ t, rw'.length = t := ⟨_, rfl⟩
  rw [hLL] at OW ⊢
  clear hLL
  go_wp2
  have hn := (((unhide HBLK).set 0 (.int .i64 kd) (by simp)).set 1 (.int .i64 nu) (by simp)).set 2 (.slice av LL cv) (by simp)
  have hFB := (((unhide HBB).setCell (p := ⟨w.heap.size, 0, none⟩) (Nat.le_refl _) (.int .i64 kd)).setCell (p := ⟨w.heap.size, 1, none⟩) (Nat.le_refl _) (.int .i64 nu)).setCell (p := ⟨w.heap.size, 2, none⟩) (Nat.le_refl _) (.slice av LL cv)
  obtain ⟨FW, hF⟩ : ∃ FW, FW = ((w2.setCell ⟨w.heap.size, 0, none⟩ (.int .i64 kd)).setCell ⟨w.heap.size, 1, none⟩ (.int .i64 nu)).setCell ⟨w.heap.size, 2, none⟩ (.slice av LL cv) := ⟨_, rfl⟩
  rw [← hF] at hn hFB ⊢
  have g0 := hn.cellAt (i := 0) rfl
  have g1 := hn.cellAt (i := 1) rfl
  have g2 := hn.cellAt (i := 2) rfl
  refine bodyPost_ret (v := .tuple #[.agg #[.int .i64 kd, .int .i64 nu, .slice av LL cv], .int .i64 co]) (by simp [results, Try.results24, go_sem, g0, g1, g2]) rfl ?_
  refine ⟨_, rfl, ?_, hFB⟩
  rw [hF]
  have hS := unhide HS1
  exact (((((unhide OW).setE hS).setE hS).setE hS).same (fun _ _ _ => ⟨fun _ => rfl, fun _ => rfl⟩) (by omega) (by simp [World.setCell]))

set_option maxRecDepth 100000 in
set_option maxHeartbeats 2000000 in
theorem l6Prim_12 (s : ByteArray) (hs : primN s.toList = 12) (lo b off cap : Nat) (x y z : MV) (w : World) (hx : CellsMv w lo b off x) (hy : CellsMv w lo b (off + 3) y) (hz : CellsMv w lo b (off + 6) z) (hb : b < w.heap.size) :
    Calls Try.prog 24 #[.string s, .slice (some ⟨b, off, none⟩) 3 cap] w fun e w' => PPost (if 0 ≤ y.num ∧ y.num < x.row.length then ((⟨3, 0, x.row.set y.num.toNat z.num⟩ : MV), (0 : Int)) else (⟨0, 0, []⟩, 2)) w e w' := by
  obtain ⟨R, hR⟩ : ∃ R, (if 0 ≤ y.num ∧ y.num < x.row.length then ((⟨3, 0, x.row.set y.num.toNat z.num⟩ : MV), (0 : Int)) else (⟨0, 0, []⟩, 2)) = R := ⟨_, rfl⟩
  rw [hR]
  have HP := hide (fun W => l2Prim_any s W)
  rw [hs] at HP
  go_enter Try.func24, Try.ntmps24
  go_wp2_with fail
  refine (unhide HP _).mono ?_
  rintro r w1 ⟨rfl, hb1⟩
  have HB1 := hide ((below_new w _).trans (hb1.mono (by simp)))
  have HK1 := hide ((Blk.new w [Value.int .i64 0, Value.int .i64 0, Value.slice none 0 0] 28).below hb1 (by simp))
  have HS1 : Hid (w.heap.size + 1 ≤ w1.heap.size) := hide (by have := hb1.size; rw [alloc_size] at this; exact this)
  have hB1 := unhide HB1
  have HC := hide (l6Rows_12 lo b off cap x y z w1 (hx.kept hB1 hb) (hy.kept hB1 hb) (hz.kept hB1 hb) (Nat.lt_of_lt_of_le hb hB1.size))
  rw [hR] at HC
  clear hx hy hz hs hb1 hB1 hR
  obtain ⟨⟨kd, nu, rw'⟩, co⟩ := R
  go_wp2_with fail
  refine (unhide HC).mono ?_
  rintro r w2 ⟨v, rfl, ho, hb2⟩
  dsimp only at ho
  obtain ⟨av, cv, rfl⟩ := ho.form
  have hblk := (unhide HK1).below hb2 (by have := unhide HS1; omega)
  have HBB := hide ((unhide HB1).trans (hb2.mono (unhide HB1).size))
  have q0 := hblk.cellAt (i := 0) rfl
  have q1 := hblk.cellAt (i := 1) rfl
  have q2 := hblk.cellAt (i := 2) rfl
  have f0 := hblk.2 0
  have f1 := hblk.2 1
  have f2 := hblk.2 2
  have HBLK := hide hblk
  have OW := hide ho
  clear hblk hb2 ho
  dsimp only
  obtain ⟨LL, hLL⟩ : ∃ t, rw'.length = t := ⟨_, rfl⟩
  rw [hLL] at OW ⊢
  clear hLL
  go_wp2
  have hn := (((unhide HBLK).set 0 (.int .i64 kd) (by simp)).set 1 (.int .i64 nu) (by simp)).set 2 (.slice av LL cv) (by simp)
  have hFB := (((unhide HBB).setCell (p := ⟨w.heap.size, 0, none⟩) (Nat.le_refl _) (.int .i64 kd)).setCell (p := ⟨w.heap.size, 1, none⟩) (Nat.le_refl _) (.int .i64 nu)).setCell (p := ⟨w.heap.size, 2, none⟩) (Nat.le_refl _) (.slice av LL cv)
  obtain ⟨FW, hF⟩ : ∃ FW, FW = ((w2.setCell ⟨w.heap.size, 0, none⟩ (.int .i64 kd)).setCell ⟨w.heap.size, 1, none⟩ (.int .i64 nu)).setCell ⟨w.heap.size, 2, none⟩ (.slice av LL cv) := ⟨_, rfl⟩
  rw [← hF] at hn hFB ⊢
  have g0 := hn.cellAt (i := 0) rfl
  have g1 := hn.cellAt (i := 1) rfl
  have g2 := hn.cellAt (i := 2) rfl
  refine bodyPost_ret (v := .tuple #[.agg #[.int .i64 kd, .int .i64 nu, .slice av LL cv], .int .i64 co]) (by simp [results, Try.results24, go_sem, g0, g1, g2]) rfl ?_
  refine ⟨_, rfl, ?_, hFB⟩
  rw [hF]
  have hS := unhide HS1
  exact (((((unhide OW).setE hS).setE hS).setE hS).same (fun _ _ _ => ⟨fun _ => rfl, fun _ => rfl⟩) (by omega) (by simp [World.setCell]))

set_option maxRecDepth 100000 in
set_option maxHeartbeats 2000000 in
theorem l6Prim_13 (s : ByteArray) (hs : primN s.toList = 13) (lo b off cap : Nat) (x y : MV) (w : World) (hx : CellsMv w lo b off x) (hy : CellsMv w lo b (off + 3) y) (hb : b < w.heap.size) :
    Calls Try.prog 24 #[.string s, .slice (some ⟨b, off, none⟩) 2 cap] w fun e w' => PPost (if 16 < x.row.length + y.row.length then ((⟨0, 0, []⟩ : MV), (3 : Int)) else (⟨3, 0, x.row ++ y.row⟩, 0)) w e w' := by
  obtain ⟨R, hR⟩ : ∃ R, (if 16 < x.row.length + y.row.length then ((⟨0, 0, []⟩ : MV), (3 : Int)) else (⟨3, 0, x.row ++ y.row⟩, 0)) = R := ⟨_, rfl⟩
  rw [hR]
  have HP := hide (fun W => l2Prim_any s W)
  rw [hs] at HP
  go_enter Try.func24, Try.ntmps24
  go_wp2_with fail
  refine (unhide HP _).mono ?_
  rintro r w1 ⟨rfl, hb1⟩
  have HB1 := hide ((below_new w _).trans (hb1.mono (by simp)))
  have HK1 := hide ((Blk.new w [Value.int .i64 0, Value.int .i64 0, Value.slice none 0 0] 28).below hb1 (by simp))
  have HS1 : Hid (w.heap.size + 1 ≤ w1.heap.size) := hide (by have := hb1.size; rw [alloc_size] at this; exact this)
  have hB1 := unhide HB1
  have HC := hide (l6Rows_13 lo b off cap x y w1 (hx.kept hB1 hb) (hy.kept hB1 hb) (Nat.lt_of_lt_of_le hb hB1.size))
  rw [hR] at HC
  clear hx hy hs hb1 hB1 hR
  obtain ⟨⟨kd, nu, rw'⟩, co⟩ := R
  go_wp2_with fail
  refine (unhide HC).mono ?_
  rintro r w2 ⟨v, rfl, ho, hb2⟩
  dsimp only at ho
  obtain ⟨av, cv, rfl⟩ := ho.form
  have hblk := (unhide HK1).below hb2 (by have := unhide HS1; omega)
  have HBB := hide ((unhide HB1).trans (hb2.mono (unhide HB1).size))
  have q0 := hblk.cellAt (i := 0) rfl
  have q1 := hblk.cellAt (i := 1) rfl
  have q2 := hblk.cellAt (i := 2) rfl
  have f0 := hblk.2 0
  have f1 := hblk.2 1
  have f2 := hblk.2 2
  have HBLK := hide hblk
  have OW := hide ho
  clear hblk hb2 ho
  dsimp only
  obtain ⟨LL, hLL⟩ : ∃ t, rw'.length = t := ⟨_, rfl⟩
  rw [hLL] at OW ⊢
  clear hLL
  go_wp2
  have hn := (((unhide HBLK).set 0 (.int .i64 kd) (by simp)).set 1 (.int .i64 nu) (by simp)).set 2 (.slice av LL cv) (by simp)
  have hFB := (((unhide HBB).setCell (p := ⟨w.heap.size, 0, none⟩) (Nat.le_refl _) (.int .i64 kd)).setCell (p := ⟨w.heap.size, 1, none⟩) (Nat.le_refl _) (.int .i64 nu)).setCell (p := ⟨w.heap.size, 2, none⟩) (Nat.le_refl _) (.slice av LL cv)
  obtain ⟨FW, hF⟩ : ∃ FW, FW = ((w2.setCell ⟨w.heap.size, 0, none⟩ (.int .i64 kd)).setCell ⟨w.heap.size, 1, none⟩ (.int .i64 nu)).setCell ⟨w.heap.size, 2, none⟩ (.slice av LL cv) := ⟨_, rfl⟩
  rw [← hF] at hn hFB ⊢
  have g0 := hn.cellAt (i := 0) rfl
  have g1 := hn.cellAt (i := 1) rfl
  have g2 := hn.cellAt (i := 2) rfl
  refine bodyPost_ret (v := .tuple #[.agg #[.int .i64 kd, .int .i64 nu, .slice av LL cv], .int .i64 co]) (by simp [results, Try.results24, go_sem, g0, g1, g2]) rfl ?_
  refine ⟨_, rfl, ?_, hFB⟩
  rw [hF]
  have hS := unhide HS1
  exact (((((unhide OW).setE hS).setE hS).setE hS).same (fun _ _ _ => ⟨fun _ => rfl, fun _ => rfl⟩) (by omega) (by simp [World.setCell]))
end Go.Proofs.Ytjnahhalgckggaa
