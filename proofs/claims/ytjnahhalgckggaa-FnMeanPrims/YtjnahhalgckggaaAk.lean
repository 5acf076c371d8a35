/- The walks of impl's small ones on values, and of the closures that primitives are. Conditions: the values can be read. -/
import Derived.Test.YtjnahhalgckggaaAj
namespace Go.Proofs.Ytjnahhalgckggaa
open Go.RowKit Go.PlainAid

set_option maxHeartbeats 1000000 in
theorem meanInt_any (x : Int) (w : World) : Calls Try.prog 55 #[.int .i64 x] w fun e w' => e = .returned (mv0 1 x) ∧ Below w.heap.size w w' := by
  go_enter Try.func55, Try.ntmps55
  go_wp2
  refine bodyPost_ret (v := mv0 1 x) (by simp [results, Try.results55, go_sem]) rfl ⟨rfl, below_new _ _⟩
set_option maxHeartbeats 1000000 in
theorem meanRow_any (a : Option Addr) (l c : Nat) (w : World) : Calls Try.prog 67 #[.slice a l c] w fun e w' => e = .returned (.agg #[.int .i64 3, .int .i64 0, .slice a l c]) ∧ Below w.heap.size w w' := by
  go_enter Try.func67, Try.ntmps67
  go_wp2
  refine bodyPost_ret (v := .agg #[.int .i64 3, .int .i64 0, .slice a l c]) (by simp [results, Try.results67, go_sem]) rfl ⟨rfl, below_new _ _⟩
set_option maxHeartbeats 1000000 in
theorem meanBool_any (b : Bool) (w : World) : Calls Try.prog 53 #[.bool b] w fun e w' => e = .returned (mv0 2 (boolI b)) ∧ Below w.heap.size w w' := by
  cases b
  · go_enter Try.func53, Try.ntmps53
    go_wp2
    refine bodyPost_ret (v := mv0 2 0) (by simp [results, Try.results53, go_sem]) rfl ⟨rfl, (below_new _ _)⟩
  · go_enter Try.func53, Try.ntmps53
    go_wp2
    refine bodyPost_ret (v := mv0 2 1) (by simp [results, Try.results53, go_sem]) rfl ⟨rfl, (below_new _ _)⟩
set_option maxHeartbeats 1000000 in
theorem op1_any (x y : Int) (w : World) : Calls Try.prog 40 #[.int .i64 x, .int .i64 y] w fun e w' => e = .returned (.int .i64 (wrap64 (x + y))) ∧ Below w.heap.size w w' := by
  go_enter Try.func40, Try.ntmps40
  go_wp2
  go_ret
  exact ⟨rfl, Below.refl _ _⟩
set_option maxHeartbeats 1000000 in
theorem op2_any (x y : Int) (w : World) : Calls Try.prog 41 #[.int .i64 x, .int .i64 y] w fun e w' => e = .returned (.int .i64 (wrap64 (x - y))) ∧ Below w.heap.size w w' := by
  go_enter Try.func41, Try.ntmps41
  go_wp2
  go_ret
  exact ⟨rfl, Below.refl _ _⟩
set_option maxHeartbeats 1000000 in
theorem op3_any (x y : Int) (w : World) : Calls Try.prog 42 #[.int .i64 x, .int .i64 y] w fun e w' => e = .returned (.int .i64 (wrap64 (x * y))) ∧ Below w.heap.size w w' := by
  go_enter Try.func42, Try.ntmps42
  go_wp2
  go_ret
  exact ⟨rfl, Below.refl _ _⟩
set_option maxHeartbeats 1000000 in
theorem op4_any (x y : Int) (w : World) (h : y ≠ 0) : Calls Try.prog 44 #[.int .i64 x, .int .i64 y] w fun e w' => e = .returned (.int .i64 (wrap64 (x.tdiv y))) ∧ Below w.heap.size w w' := by
  go_enter Try.func44, Try.ntmps44
  go_wp2
  go_ret
  exact ⟨rfl, Below.refl _ _⟩
set_option maxHeartbeats 1000000 in
theorem op5_any (x y : Int) (w : World) (h : y ≠ 0) : Calls Try.prog 45 #[.int .i64 x, .int .i64 y] w fun e w' => e = .returned (.int .i64 (x.tmod y)) ∧ Below w.heap.size w w' := by
  go_enter Try.func45, Try.ntmps45
  go_wp2
  go_ret
  exact ⟨rfl, Below.refl _ _⟩
set_option maxHeartbeats 1000000 in
theorem op6_any (x y : Int) (w : World) : Calls Try.prog 47 #[.int .i64 x, .int .i64 y] w fun e w' => e = .returned (.bool (decide (x < y))) ∧ Below w.heap.size w w' := by
  go_enter Try.func47, Try.ntmps47
  go_wp2
  go_ret
  exact ⟨rfl, Below.refl _ _⟩
set_option maxHeartbeats 1000000 in
theorem op7_any (x y : Int) (w : World) : Calls Try.prog 48 #[.int .i64 x, .int .i64 y] w fun e w' => e = .returned (.bool (decide (x ≤ y))) ∧ Below w.heap.size w w' := by
  go_enter Try.func48, Try.ntmps48
  go_wp2
  go_ret
  exact ⟨rfl, Below.refl _ _⟩
set_option maxHeartbeats 1000000 in
theorem op8_any (x y : Int) (w : World) : Calls Try.prog 49 #[.int .i64 x, .int .i64 y] w fun e w' => e = .returned (.bool (x == y)) ∧ Below w.heap.size w w' := by
  go_enter Try.func49, Try.ntmps49
  go_wp2
  go_ret
  exact ⟨rfl, Below.refl _ _⟩
set_option maxHeartbeats 1000000 in
theorem op9_any (x y : Int) (w : World) : Calls Try.prog 50 #[.int .i64 x, .int .i64 y] w fun e w' => e = .returned (.bool (x != 0 && y != 0)) ∧ Below w.heap.size w w' := by
  obtain ⟨bx, hbx⟩ : ∃ t, (x != 0) = t := ⟨_, rfl⟩
  obtain ⟨by', hby⟩ : ∃ t, (y != 0) = t := ⟨_, rfl⟩
  rw [hbx, hby]
  cases bx <;> cases by'
  · go_enter Try.func50, Try.ntmps50
    go_wp2
    go_ret
    exact ⟨rfl, Below.refl _ _⟩
  · go_enter Try.func50, Try.ntmps50
    go_wp2
    go_ret
    exact ⟨rfl, Below.refl _ _⟩
  · go_enter Try.func50, Try.ntmps50
    go_wp2
    go_ret
    exact ⟨rfl, Below.refl _ _⟩
  · go_enter Try.func50, Try.ntmps50
    go_wp2
    go_ret
    exact ⟨rfl, Below.refl _ _⟩
set_option maxHeartbeats 1000000 in
theorem op10_any (x y : Int) (w : World) : Calls Try.prog 51 #[.int .i64 x, .int .i64 y] w fun e w' => e = .returned (.bool (x != 0 || y != 0)) ∧ Below w.heap.size w w' := by
  obtain ⟨bx, hbx⟩ : ∃ t, (x != 0) = t := ⟨_, rfl⟩
  obtain ⟨by', hby⟩ : ∃ t, (y != 0) = t := ⟨_, rfl⟩
  rw [hbx, hby]
  cases bx <;> cases by'
  · go_enter Try.func51, Try.ntmps51
    go_wp2
    go_ret
    exact ⟨rfl, Below.refl _ _⟩
  · go_enter Try.func51, Try.ntmps51
    go_wp2
    go_ret
    exact ⟨rfl, Below.refl _ _⟩
  · go_enter Try.func51, Try.ntmps51
    go_wp2
    go_ret
    exact ⟨rfl, Below.refl _ _⟩
  · go_enter Try.func51, Try.ntmps51
    go_wp2
    go_ret
    exact ⟨rfl, Below.refl _ _⟩

set_option maxRecDepth 100000 in
set_option maxHeartbeats 2000000 in
theorem number_any (f : Nat) (op : Int → Int → Int) (x y : MV) (hf : ∀ W, Calls Try.prog f #[.int .i64 x.num, .int .i64 y.num] W fun e w' => e = .returned (.int .i64 (op x.num y.num)) ∧ Below W.heap.size W w') (hcf : ∀ (x0 x1 : Value) (W : World), (callFunc f #[x0, x1]).run Try.prog W = .ok (.enter f #[x0, x1]) W)
    (lo B b off cap : Nat) (w : World) (hB : w.cell? ⟨B, 0, none⟩ = some (.func (.func f) #[] #[])) (hBn : B < w.heap.size) (hx : CellsMv w lo b off x) (hy : CellsMv w lo b (off + 3) y) (hb : b < w.heap.size) :
    Calls Try.prog 63 #[.slice (some ⟨b, off, none⟩) 2 cap, .pointer (some ⟨B, 0, none⟩)] w fun e w' => PPost (⟨1, (op x.num y.num), []⟩, 0) w e w' := by
  obtain ⟨xk, xn, xr⟩ := x
  obtain ⟨yk, yn, yr⟩ := y
  obtain ⟨pa, pc, p0, p1, p2, p3, p4⟩ := hx
  obtain ⟨sa, sc, s0, s1, s2, s3, s4⟩ := hy
  dsimp only at p1 s1 hf ⊢
  have HF := hide hf
  obtain ⟨v, hv⟩ : ∃ v, op xn yn = v := ⟨_, rfl⟩
  rw [hv] at HF ⊢
  clear p0 p2 p3 p4 s0 s2 s3 s4 hf hv
  have HBW : Hid (Below w.heap.size w (w.alloc (.cells #[Value.int .i64 0, Value.int .i64 0, Value.slice none 0 0] 28))) := hide (below_new _ _)
  have HKK : Hid (Blk (w.alloc (.cells #[Value.int .i64 0, Value.int .i64 0, Value.slice none 0 0] 28)) w.heap.size [Value.int .i64 0, Value.int .i64 0, Value.slice none 0 0]) := hide (Blk.new w [Value.int .i64 0, Value.int .i64 0, Value.slice none 0 0] 28)
  go_enter Try.func63, Try.ntmps63
  go_wp2
  go_region_law (first
    | (go_simp; refine (unhide HF _).mono ?_; rintro r w1 ⟨rfl, hb1⟩; have hW1 : Below (w.heap.size + 1) (w.alloc (.cells #[Value.int .i64 0, Value.int .i64 0, Value.slice none 0 0] 28)) w1 := (Below.refl _ _).drew.trans (hb1.mono (by simp [World.drew])); clear hb1)
    | (go_simp; refine (meanInt_any _ _).mono ?_; rintro r w2 ⟨rfl, hb2⟩; have hbd := hW1.trans (hb2.mono (by have := hW1.size; rw [alloc_size] at this; omega)); have hblk := (unhide HKK).below hbd (Nat.lt_succ_self _); have HBB := hide ((unhide HBW).trans (hbd.mono (Nat.le_succ _))); have q0 := hblk.cellAt (i := 0) rfl; have q1 := hblk.cellAt (i := 1) rfl; have q2 := hblk.cellAt (i := 2) rfl; have f0 := hblk.2 0; have f1 := hblk.2 1; have f2 := hblk.2 2; have HBLK := hide hblk; clear hblk hb2 hbd hW1))
  all_goals
    go_wp2
    have hn := (((unhide HBLK).set 0 (.int .i64 1) (by simp)).set 1 (.int .i64 v) (by simp)).set 2 (.slice none 0 0) (by simp)
    have hFB := (((unhide HBB).setCell (p := ⟨w.heap.size, 0, none⟩) (Nat.le_refl _) (.int .i64 1)).setCell (p := ⟨w.heap.size, 1, none⟩) (Nat.le_refl _) (.int .i64 v)).setCell (p := ⟨w.heap.size, 2, none⟩) (Nat.le_refl _) (.slice none 0 0)
    obtain ⟨FW, hF⟩ : ∃ FW, FW = ((w2.setCell ⟨w.heap.size, 0, none⟩ (.int .i64 1)).setCell ⟨w.heap.size, 1, none⟩ (.int .i64 v)).setCell ⟨w.heap.size, 2, none⟩ (.slice none 0 0) := ⟨_, rfl⟩
    rw [← hF] at hn hFB ⊢
    have g0 := hn.cellAt (i := 0) rfl
    have g1 := hn.cellAt (i := 1) rfl
    have g2 := hn.cellAt (i := 2) rfl
    refine bodyPost_ret (v := .tuple #[.agg #[.int .i64 1, .int .i64 v, .slice none 0 0], .int .i64 0]) (by simp [results, Try.results63, go_sem, g0, g1, g2]) rfl (.plain hFB)

set_option maxRecDepth 100000 in
set_option maxHeartbeats 2000000 in
theorem truth_any (f : Nat) (op : Int → Int → Bool) (x y : MV) (hf : ∀ W, Calls Try.prog f #[.int .i64 x.num, .int .i64 y.num] W fun e w' => e = .returned (.bool (op x.num y.num)) ∧ Below W.heap.size W w') (hcf : ∀ (x0 x1 : Value) (W : World), (callFunc f #[x0, x1]).run Try.prog W = .ok (.enter f #[x0, x1]) W)
    (lo B b off cap : Nat) (w : World) (hB : w.cell? ⟨B, 0, none⟩ = some (.func (.func f) #[] #[])) (hBn : B < w.heap.size) (hx : CellsMv w lo b off x) (hy : CellsMv w lo b (off + 3) y) (hb : b < w.heap.size) :
    Calls Try.prog 65 #[.slice (some ⟨b, off, none⟩) 2 cap, .pointer (some ⟨B, 0, none⟩)] w fun e w' => PPost (⟨2, (boolI (op x.num y.num)), []⟩, 0) w e w' := by
  obtain ⟨xk, xn, xr⟩ := x
  obtain ⟨yk, yn, yr⟩ := y
  obtain ⟨pa, pc, p0, p1, p2, p3, p4⟩ := hx
  obtain ⟨sa, sc, s0, s1, s2, s3, s4⟩ := hy
  dsimp only at p1 s1 hf ⊢
  have HF := hide hf
  obtain ⟨v, hv⟩ : ∃ v, op xn yn = v := ⟨_, rfl⟩
  rw [hv] at HF ⊢
  clear p0 p2 p3 p4 s0 s2 s3 s4 hf hv
  have HBW : Hid (Below w.heap.size w (w.alloc (.cells #[Value.int .i64 0, Value.int .i64 0, Value.slice none 0 0] 28))) := hide (below_new _ _)
  have HKK : Hid (Blk (w.alloc (.cells #[Value.int .i64 0, Value.int .i64 0, Value.slice none 0 0] 28)) w.heap.size [Value.int .i64 0, Value.int .i64 0, Value.slice none 0 0]) := hide (Blk.new w [Value.int .i64 0, Value.int .i64 0, Value.slice none 0 0] 28)
  go_enter Try.func65, Try.ntmps65
  go_wp2
  go_region_law (first
    | (go_simp; refine (unhide HF _).mono ?_; rintro r w1 ⟨rfl, hb1⟩; have hW1 : Below (w.heap.size + 1) (w.alloc (.cells #[Value.int .i64 0, Value.int .i64 0, Value.slice none 0 0] 28)) w1 := (Below.refl _ _).drew.trans (hb1.mono (by simp [World.drew])); clear hb1)
    | (go_simp; refine (meanBool_any _ _).mono ?_; rintro r w2 ⟨rfl, hb2⟩; have hbd := hW1.trans (hb2.mono (by have := hW1.size; rw [alloc_size] at this; omega)); have hblk := (unhide HKK).below hbd (Nat.lt_succ_self _); have HBB := hide ((unhide HBW).trans (hbd.mono (Nat.le_succ _))); have q0 := hblk.cellAt (i := 0) rfl; have q1 := hblk.cellAt (i := 1) rfl; have q2 := hblk.cellAt (i := 2) rfl; have f0 := hblk.2 0; have f1 := hblk.2 1; have f2 := hblk.2 2; have HBLK := hide hblk; clear hblk hb2 hbd hW1))
  all_goals
    go_wp2
    have hn := (((unhide HBLK).set 0 (.int .i64 2) (by simp)).set 1 (.int .i64 (boolI v)) (by simp)).set 2 (.slice none 0 0) (by simp)
    have hFB := (((unhide HBB).setCell (p := ⟨w.heap.size, 0, none⟩) (Nat.le_refl _) (.int .i64 2)).setCell (p := ⟨w.heap.size, 1, none⟩) (Nat.le_refl _) (.int .i64 (boolI v))).setCell (p := ⟨w.heap.size, 2, none⟩) (Nat.le_refl _) (.slice none 0 0)
    obtain ⟨FW, hF⟩ : ∃ FW, FW = ((w2.setCell ⟨w.heap.size, 0, none⟩ (.int .i64 2)).setCell ⟨w.heap.size, 1, none⟩ (.int .i64 (boolI v))).setCell ⟨w.heap.size, 2, none⟩ (.slice none 0 0) := ⟨_, rfl⟩
    rw [← hF] at hn hFB ⊢
    have g0 := hn.cellAt (i := 0) rfl
    have g1 := hn.cellAt (i := 1) rfl
    have g2 := hn.cellAt (i := 2) rfl
    refine bodyPost_ret (v := .tuple #[.agg #[.int .i64 2, .int .i64 (boolI v), .slice none 0 0], .int .i64 0]) (by simp [results, Try.results65, go_sem, g0, g1, g2]) rfl (.plain hFB)
end Go.Proofs.Ytjnahhalgckggaa
