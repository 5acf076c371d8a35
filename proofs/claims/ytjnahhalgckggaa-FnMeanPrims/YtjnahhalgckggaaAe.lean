/- The walks of l6Int, l6Bool, l6Row and l6Calc. No conditions. -/
import Derived.Test.YtjnahhalgckggaaAb
import Derived.Test.YtjnahhalgckggaaHb
namespace Go.Proofs.Ytjnahhalgckggaa
open Go.RowKit Go.PlainAid

/-- A value without a row. -/
abbrev mv0 (k n : Int) : Value := .agg #[.int .i64 k, .int .i64 n, .slice none 0 0]
def boolI (b : Bool) : Int := if b then 1 else 0
set_option maxHeartbeats 1000000 in
theorem l6Int_any (x : Int) (w : World) : Calls Try.prog 37 #[.int .i64 x] w fun e w' => e = .returned (mv0 1 x) ∧ Below w.heap.size w w' := by
  go_enter Try.func37, Try.ntmps37
  go_wp2
  refine bodyPost_ret (v := mv0 1 x) (by simp [results, Try.results37, go_sem]) rfl ⟨rfl, below_new _ _⟩
set_option maxHeartbeats 1000000 in
theorem l6Row_any (a : Option Addr) (l c : Nat) (w : World) : Calls Try.prog 62 #[.slice a l c] w fun e w' => e = .returned (.agg #[.int .i64 3, .int .i64 0, .slice a l c]) ∧ Below w.heap.size w w' := by
  go_enter Try.func62, Try.ntmps62
  go_wp2
  refine bodyPost_ret (v := .agg #[.int .i64 3, .int .i64 0, .slice a l c]) (by simp [results, Try.results62, go_sem]) rfl ⟨rfl, below_new _ _⟩
set_option maxHeartbeats 1000000 in
theorem l6Bool_any (b : Bool) (w : World) : Calls Try.prog 35 #[.bool b] w fun e w' => e = .returned (mv0 2 (boolI b)) ∧ Below w.heap.size w w' := by
  cases b
  · go_enter Try.func35, Try.ntmps35
    go_wp2
    refine bodyPost_ret (v := mv0 2 0) (by simp [results, Try.results35, go_sem]) rfl ⟨rfl, ((below_new _ _).alloc (by simp) _)⟩
  · go_enter Try.func35, Try.ntmps35
    go_wp2
    refine bodyPost_ret (v := mv0 2 1) (by simp [results, Try.results35, go_sem]) rfl ⟨rfl, ((below_new _ _).alloc (by simp) _)⟩
/-- What two numbers come to, by the number of a primitive: kind, number, code. -/
def calcR (n : Nat) (a b : Int) : Int × Int × Int :=
  if n = 1 then (1, wrap64 (a + b), 0) else if n = 2 then (1, wrap64 (a - b), 0) else if n = 3 then (1, wrap64 (a * b), 0)
  else if n = 6 then (2, boolI (decide (a < b)), 0) else if n = 7 then (2, boolI (decide (a ≤ b)), 0) else if n = 8 then (2, boolI (a == b), 0)
  else if b = 0 then (0, 0, 1) else if n = 4 then (1, wrap64 (a.tdiv b), 0) else (1, a.tmod b, 0)
set_option maxHeartbeats 4000000 in
theorem l6Calc_any (n : Nat) (a b : Int) (w : World) (h1 : 1 ≤ n) (h8 : n ≤ 8) : Calls Try.prog 34 #[.int .i64 n, .int .i64 a, .int .i64 b] w fun e w' => e = .returned (.tuple #[mv0 (calcR n a b).1 (calcR n a b).2.1, .int .i64 (calcR n a b).2.2]) ∧ Below w.heap.size w w' := by
  have hn : n = 1 ∨ n = 2 ∨ n = 3 ∨ n = 4 ∨ n = 5 ∨ n = 6 ∨ n = 7 ∨ n = 8 := by omega
  clear h1 h8
  rcases hn with rfl | rfl | rfl | rfl | rfl | rfl | rfl | rfl
  · go_enter Try.func34, Try.ntmps34
    go_wp2_with fail
    refine (l6Int_any _ _).mono ?_
    rintro r w2 ⟨rfl, hb2⟩
    have hblk : Blk w2 w.heap.size [Value.int .i64 0, Value.int .i64 0, Value.slice none 0 0] := (Blk.new w [Value.int .i64 0, Value.int .i64 0, Value.slice none 0 0] 28).below hb2 (by simp)
    have HBB := hide ((below_new w _).trans (hb2.mono (by simp)))
    have q0 := hblk.cellAt (i := 0) rfl
    have q1 := hblk.cellAt (i := 1) rfl
    have q2 := hblk.cellAt (i := 2) rfl
    have f0 := hblk.2 0
    have f1 := hblk.2 1
    have f2 := hblk.2 2
    have HBLK := hide hblk
    clear hblk hb2
    go_wp2
    have hn := (((unhide HBLK).set 0 (.int .i64 1) (by simp)).set 1 (.int .i64 (wrap64 (a + b))) (by simp)).set 2 (.slice none 0 0) (by simp)
    have hFB := (((unhide HBB).setCell (p := ⟨w.heap.size, 0, none⟩) (Nat.le_refl _) (.int .i64 1)).setCell (p := ⟨w.heap.size, 1, none⟩) (Nat.le_refl _) (.int .i64 (wrap64 (a + b)))).setCell (p := ⟨w.heap.size, 2, none⟩) (Nat.le_refl _) (.slice none 0 0)
    obtain ⟨FW, hF⟩ : ∃ FW, FW = ((w2.setCell ⟨w.heap.size, 0, none⟩ (.int .i64 1)).setCell ⟨w.heap.size, 1, none⟩ (.int .i64 (wrap64 (a + b)))).setCell ⟨w.heap.size, 2, none⟩ (.slice none 0 0) := ⟨_, rfl⟩
    rw [← hF] at hn hFB ⊢
    have g0 := hn.cellAt (i := 0) rfl
    have g1 := hn.cellAt (i := 1) rfl
    have g2 := hn.cellAt (i := 2) rfl
    refine bodyPost_ret (v := .tuple #[.agg #[.int .i64 1, .int .i64 (wrap64 (a + b)), .slice none 0 0], .int .i64 0]) (by simp [results, Try.results34, go_sem, g0, g1, g2]) rfl ⟨rfl, hFB⟩
  · go_enter Try.func34, Try.ntmps34
    go_wp2_with fail
    refine (l6Int_any _ _).mono ?_
    rintro r w2 ⟨rfl, hb2⟩
    have hblk : Blk w2 w.heap.size [Value.int .i64 0, Value.int .i64 0, Value.slice none 0 0] := (Blk.new w [Value.int .i64 0, Value.int .i64 0, Value.slice none 0 0] 28).below hb2 (by simp)
    have HBB := hide ((below_new w _).trans (hb2.mono (by simp)))
    have q0 := hblk.cellAt (i := 0) rfl
    have q1 := hblk.cellAt (i := 1) rfl
    have q2 := hblk.cellAt (i := 2) rfl
    have f0 := hblk.2 0
    have f1 := hblk.2 1
    have f2 := hblk.2 2
    have HBLK := hide hblk
    clear hblk hb2
    go_wp2
    have hn := (((unhide HBLK).set 0 (.int .i64 1) (by simp)).set 1 (.int .i64 (wrap64 (a - b))) (by simp)).set 2 (.slice none 0 0) (by simp)
    have hFB := (((unhide HBB).setCell (p := ⟨w.heap.size, 0, none⟩) (Nat.le_refl _) (.int .i64 1)).setCell (p := ⟨w.heap.size, 1, none⟩) (Nat.le_refl _) (.int .i64 (wrap64 (a - b)))).setCell (p := ⟨w.heap.size, 2, none⟩) (Nat.le_refl _) (.slice none 0 0)
    obtain ⟨FW, hF⟩ : ∃ FW, FW = ((w2.setCell ⟨w.heap.size, 0, none⟩ (.int .i64 1)).setCell ⟨w.heap.size, 1, none⟩ (.int .i64 (wrap64 (a - b)))).setCell ⟨w.heap.size, 2, none⟩ (.slice none 0 0) := ⟨_, rfl⟩
    rw [← hF] at hn hFB ⊢
    have g0 := hn.cellAt (i := 0) rfl
    have g1 := hn.cellAt (i := 1) rfl
    have g2 := hn.cellAt (i := 2) rfl
    refine bodyPost_ret (v := .tuple #[.agg #[.int .i64 1, .int .i64 (wrap64 (a - b)), .slice none 0 0], .int .i64 0]) (by simp [results, Try.results34, go_sem, g0, g1, g2]) rfl ⟨rfl, hFB⟩
  · go_enter Try.func34, Try.ntmps34
    go_wp2_with fail
    refine (l6Int_any _ _).mono ?_
    rintro r w2 ⟨rfl, hb2⟩
    have hblk : Blk w2 w.heap.size [Value.int .i64 0, Value.int .i64 0, Value.slice none 0 0] := (Blk.new w [Value.int .i64 0, Value.int .i64 0, Value.slice none 0 0] 28).below hb2 (by simp)
    have HBB := hide ((below_new w _).trans (hb2.mono (by simp)))
    have q0 := hblk.cellAt (i := 0) rfl
    have q1 := hblk.cellAt (i := 1) rfl
    have q2 := hblk.cellAt (i := 2) rfl
    have f0 := hblk.2 0
    have f1 := hblk.2 1
    have f2 := hblk.2 2
    have HBLK := hide hblk
    clear hblk hb2
    go_wp2
    have hn := (((unhide HBLK).set 0 (.int .i64 1) (by simp)).set 1 (.int .i64 (wrap64 (a * b))) (by simp)).set 2 (.slice none 0 0) (by simp)
    have hFB := (((unhide HBB).setCell (p := ⟨w.heap.size, 0, none⟩) (Nat.le_refl _) (.int .i64 1)).setCell (p := ⟨w.heap.size, 1, none⟩) (Nat.le_refl _) (.int .i64 (wrap64 (a * b)))).setCell (p := ⟨w.heap.size, 2, none⟩) (Nat.le_refl _) (.slice none 0 0)
    obtain ⟨FW, hF⟩ : ∃ FW, FW = ((w2.setCell ⟨w.heap.size, 0, none⟩ (.int .i64 1)).setCell ⟨w.heap.size, 1, none⟩ (.int .i64 (wrap64 (a * b)))).setCell ⟨w.heap.size, 2, none⟩ (.slice none 0 0) := ⟨_, rfl⟩
    rw [← hF] at hn hFB ⊢
    have g0 := hn.cellAt (i := 0) rfl
    have g1 := hn.cellAt (i := 1) rfl
    have g2 := hn.cellAt (i := 2) rfl
    refine bodyPost_ret (v := .tuple #[.agg #[.int .i64 1, .int .i64 (wrap64 (a * b)), .slice none 0 0], .int .i64 0]) (by simp [results, Try.results34, go_sem, g0, g1, g2]) rfl ⟨rfl, hFB⟩
  · by_cases hb : b = 0
    · subst hb
      go_enter Try.func34, Try.ntmps34
      go_wp2
      refine bodyPost_ret (v := .tuple #[mv0 0 0, .int .i64 1]) (by simp [results, Try.results34, go_sem]) rfl ⟨rfl, below_new _ _⟩
    · have HC : Hid (calcR 4 a b = (1, wrap64 (a.tdiv b), 0)) := hide (by simp [calcR, hb])
      go_enter Try.func34, Try.ntmps34
      go_wp2_with fail
      refine (l6Int_any _ _).mono ?_
      rintro r w2 ⟨rfl, hb2⟩
      have hblk : Blk w2 w.heap.size [Value.int .i64 0, Value.int .i64 0, Value.slice none 0 0] := (Blk.new w [Value.int .i64 0, Value.int .i64 0, Value.slice none 0 0] 28).below hb2 (by simp)
      have HBB := hide ((below_new w _).trans (hb2.mono (by simp)))
      have q0 := hblk.cellAt (i := 0) rfl
      have q1 := hblk.cellAt (i := 1) rfl
      have q2 := hblk.cellAt (i := 2) rfl
      have f0 := hblk.2 0
      have f1 := hblk.2 1
      have f2 := hblk.2 2
      have HBLK := hide hblk
      clear hblk hb2
      go_wp2
      have hn := (((unhide HBLK).set 0 (.int .i64 1) (by simp)).set 1 (.int .i64 (wrap64 (a.tdiv b))) (by simp)).set 2 (.slice none 0 0) (by simp)
      have hFB := (((unhide HBB).setCell (p := ⟨w.heap.size, 0, none⟩) (Nat.le_refl _) (.int .i64 1)).setCell (p := ⟨w.heap.size, 1, none⟩) (Nat.le_refl _) (.int .i64 (wrap64 (a.tdiv b)))).setCell (p := ⟨w.heap.size, 2, none⟩) (Nat.le_refl _) (.slice none 0 0)
      obtain ⟨FW, hF⟩ : ∃ FW, FW = ((w2.setCell ⟨w.heap.size, 0, none⟩ (.int .i64 1)).setCell ⟨w.heap.size, 1, none⟩ (.int .i64 (wrap64 (a.tdiv b)))).setCell ⟨w.heap.size, 2, none⟩ (.slice none 0 0) := ⟨_, rfl⟩
      rw [← hF] at hn hFB ⊢
      have g0 := hn.cellAt (i := 0) rfl
      have g1 := hn.cellAt (i := 1) rfl
      have g2 := hn.cellAt (i := 2) rfl
      refine bodyPost_ret (v := .tuple #[.agg #[.int .i64 1, .int .i64 (wrap64 (a.tdiv b)), .slice none 0 0], .int .i64 0]) (by simp [results, Try.results34, go_sem, g0, g1, g2]) rfl ⟨by rw [unhide HC], hFB⟩
  · by_cases hb : b = 0
    · subst hb
      go_enter Try.func34, Try.ntmps34
      go_wp2
      refine bodyPost_ret (v := .tuple #[mv0 0 0, .int .i64 1]) (by simp [results, Try.results34, go_sem]) rfl ⟨rfl, below_new _ _⟩
    · have HC : Hid (calcR 5 a b = (1, (a.tmod b), 0)) := hide (by simp [calcR, hb])
      go_enter Try.func34, Try.ntmps34
      go_wp2_with fail
      refine (l6Int_any _ _).mono ?_
      rintro r w2 ⟨rfl, hb2⟩
      have hblk : Blk w2 w.heap.size [Value.int .i64 0, Value.int .i64 0, Value.slice none 0 0] := (Blk.new w [Value.int .i64 0, Value.int .i64 0, Value.slice none 0 0] 28).below hb2 (by simp)
      have HBB := hide ((below_new w _).trans (hb2.mono (by simp)))
      have q0 := hblk.cellAt (i := 0) rfl
      have q1 := hblk.cellAt (i := 1) rfl
      have q2 := hblk.cellAt (i := 2) rfl
      have f0 := hblk.2 0
      have f1 := hblk.2 1
      have f2 := hblk.2 2
      have HBLK := hide hblk
      clear hblk hb2
      go_wp2
      have hn := (((unhide HBLK).set 0 (.int .i64 1) (by simp)).set 1 (.int .i64 ((a.tmod b))) (by simp)).set 2 (.slice none 0 0) (by simp)
      have hFB := (((unhide HBB).setCell (p := ⟨w.heap.size, 0, none⟩) (Nat.le_refl _) (.int .i64 1)).setCell (p := ⟨w.heap.size, 1, none⟩) (Nat.le_refl _) (.int .i64 ((a.tmod b)))).setCell (p := ⟨w.heap.size, 2, none⟩) (Nat.le_refl _) (.slice none 0 0)
      obtain ⟨FW, hF⟩ : ∃ FW, FW = ((w2.setCell ⟨w.heap.size, 0, none⟩ (.int .i64 1)).setCell ⟨w.heap.size, 1, none⟩ (.int .i64 ((a.tmod b)))).setCell ⟨w.heap.size, 2, none⟩ (.slice none 0 0) := ⟨_, rfl⟩
      rw [← hF] at hn hFB ⊢
      have g0 := hn.cellAt (i := 0) rfl
      have g1 := hn.cellAt (i := 1) rfl
      have g2 := hn.cellAt (i := 2) rfl
      refine bodyPost_ret (v := .tuple #[.agg #[.int .i64 1, .int .i64 ((a.tmod b)), .slice none 0 0], .int .i64 0]) (by simp [results, Try.results34, go_sem, g0, g1, g2]) rfl ⟨by rw [unhide HC], hFB⟩
  · go_enter Try.func34, Try.ntmps34
    go_wp2_with fail
    refine (l6Bool_any _ _).mono ?_
    rintro r w2 ⟨rfl, hb2⟩
    have hblk : Blk w2 w.heap.size [Value.int .i64 0, Value.int .i64 0, Value.slice none 0 0] := (Blk.new w [Value.int .i64 0, Value.int .i64 0, Value.slice none 0 0] 28).below hb2 (by simp)
    have HBB := hide ((below_new w _).trans (hb2.mono (by simp)))
    have q0 := hblk.cellAt (i := 0) rfl
    have q1 := hblk.cellAt (i := 1) rfl
    have q2 := hblk.cellAt (i := 2) rfl
    have f0 := hblk.2 0
    have f1 := hblk.2 1
    have f2 := hblk.2 2
    have HBLK := hide hblk
    clear hblk hb2
    go_wp2
    have hn := (((unhide HBLK).set 0 (.int .i64 2) (by simp)).set 1 (.int .i64 (boolI (decide (a < b)))) (by simp)).set 2 (.slice none 0 0) (by simp)
    have hFB := (((unhide HBB).setCell (p := ⟨w.heap.size, 0, none⟩) (Nat.le_refl _) (.int .i64 2)).setCell (p := ⟨w.heap.size, 1, none⟩) (Nat.le_refl _) (.int .i64 (boolI (decide (a < b))))).setCell (p := ⟨w.heap.size, 2, none⟩) (Nat.le_refl _) (.slice none 0 0)
    obtain ⟨FW, hF⟩ : ∃ FW, FW = ((w2.setCell ⟨w.heap.size, 0, none⟩ (.int .i64 2)).setCell ⟨w.heap.size, 1, none⟩ (.int .i64 (boolI (decide (a < b))))).setCell ⟨w.heap.size, 2, none⟩ (.slice none 0 0) := ⟨_, rfl⟩
    rw [← hF] at hn hFB ⊢
    have g0 := hn.cellAt (i := 0) rfl
    have g1 := hn.cellAt (i := 1) rfl
    have g2 := hn.cellAt (i := 2) rfl
    refine bodyPost_ret (v := .tuple #[.agg #[.int .i64 2, .int .i64 (boolI (decide (a < b))), .slice none 0 0], .int .i64 0]) (by simp [results, Try.results34, go_sem, g0, g1, g2]) rfl ⟨rfl, hFB⟩
  · go_enter Try.func34, Try.ntmps34
    go_wp2_with fail
    refine (l6Bool_any _ _).mono ?_
    rintro r w2 ⟨rfl, hb2⟩
    have hblk : Blk w2 w.heap.size [Value.int .i64 0, Value.int .i64 0, Value.slice none 0 0] := (Blk.new w [Value.int .i64 0, Value.int .i64 0, Value.slice none 0 0] 28).below hb2 (by simp)
    have HBB := hide ((below_new w _).trans (hb2.mono (by simp)))
    have q0 := hblk.cellAt (i := 0) rfl
    have q1 := hblk.cellAt (i := 1) rfl
    have q2 := hblk.cellAt (i := 2) rfl
    have f0 := hblk.2 0
    have f1 := hblk.2 1
    have f2 := hblk.2 2
    have HBLK := hide hblk
    clear hblk hb2
    go_wp2
    have hn := (((unhide HBLK).set 0 (.int .i64 2) (by simp)).set 1 (.int .i64 (boolI (decide (a ≤ b)))) (by simp)).set 2 (.slice none 0 0) (by simp)
    have hFB := (((unhide HBB).setCell (p := ⟨w.heap.size, 0, none⟩) (Nat.le_refl _) (.int .i64 2)).setCell (p := ⟨w.heap.size, 1, none⟩) (Nat.le_refl _) (.int .i64 (boolI (decide (a ≤ b))))).setCell (p := ⟨w.heap.size, 2, none⟩) (Nat.le_refl _) (.slice none 0 0)
    obtain ⟨FW, hF⟩ : ∃ FW, FW = ((w2.setCell ⟨w.heap.size, 0, none⟩ (.int .i64 2)).setCell ⟨w.heap.size, 1, none⟩ (.int .i64 (boolI (decide (a ≤ b))))).setCell ⟨w.heap.size, 2, none⟩ (.slice none 0 0) := ⟨_, rfl⟩
    rw [← hF] at hn hFB ⊢
    have g0 := hn.cellAt (i := 0) rfl
    have g1 := hn.cellAt (i := 1) rfl
    have g2 := hn.cellAt (i := 2) rfl
    refine bodyPost_ret (v := .tuple #[.agg #[.int .i64 2, .int .i64 (boolI (decide (a ≤ b))), .slice none 0 0], .int .i64 0]) (by simp [results, Try.results34, go_sem, g0, g1, g2]) rfl ⟨rfl, hFB⟩
  · go_enter Try.func34, Try.ntmps34
    go_wp2_with fail
    refine (l6Bool_any _ _).mono ?_
    rintro r w2 ⟨rfl, hb2⟩
    have hblk : Blk w2 w.heap.size [Value.int .i64 0, Value.int .i64 0, Value.slice none 0 0] := (Blk.new w [Value.int .i64 0, Value.int .i64 0, Value.slice none 0 0] 28).below hb2 (by simp)
    have HBB := hide ((below_new w _).trans (hb2.mono (by simp)))
    have q0 := hblk.cellAt (i := 0) rfl
    have q1 := hblk.cellAt (i := 1) rfl
    have q2 := hblk.cellAt (i := 2) rfl
    have f0 := hblk.2 0
    have f1 := hblk.2 1
    have f2 := hblk.2 2
    have HBLK := hide hblk
    clear hblk hb2
    go_wp2
    have hn := (((unhide HBLK).set 0 (.int .i64 2) (by simp)).set 1 (.int .i64 (boolI (a == b))) (by simp)).set 2 (.slice none 0 0) (by simp)
    have hFB := (((unhide HBB).setCell (p := ⟨w.heap.size, 0, none⟩) (Nat.le_refl _) (.int .i64 2)).setCell (p := ⟨w.heap.size, 1, none⟩) (Nat.le_refl _) (.int .i64 (boolI (a == b)))).setCell (p := ⟨w.heap.size, 2, none⟩) (Nat.le_refl _) (.slice none 0 0)
    obtain ⟨FW, hF⟩ : ∃ FW, FW = ((w2.setCell ⟨w.heap.size, 0, none⟩ (.int .i64 2)).setCell ⟨w.heap.size, 1, none⟩ (.int .i64 (boolI (a == b)))).setCell ⟨w.heap.size, 2, none⟩ (.slice none 0 0) := ⟨_, rfl⟩
    rw [← hF] at hn hFB ⊢
    have g0 := hn.cellAt (i := 0) rfl
    have g1 := hn.cellAt (i := 1) rfl
    have g2 := hn.cellAt (i := 2) rfl
    refine bodyPost_ret (v := .tuple #[.agg #[.int .i64 2, .int .i64 (boolI (a == b)), .slice none 0 0], .int .i64 0]) (by simp [results, Try.results34, go_sem, g0, g1, g2]) rfl ⟨rfl, hFB⟩
end Go.Proofs.Ytjnahhalgckggaa
