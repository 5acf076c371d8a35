/- The walk of spec.MeanPrim. Conditions: the values can be read. -/
import Derived.Test.YtjnahhalgckggaaAi
namespace Go.Proofs.Ytjnahhalgckggaa
open Go.RowKit Go.PlainAid

theorem prim_calc {n : Nat} (h : n ≤ 8) (x y : MV) : primR n [x, y] = (⟨(calcR n x.num y.num).1, (calcR n x.num y.num).2.1, []⟩, (calcR n x.num y.num).2.2) := by
  unfold primR
  rw [if_pos h]
  rfl
theorem l6Prim_any (s : ByteArray) (lo : Nat) (a : Option Addr) (cap : Nat) (xs : List MV) (w : World) (h : Mvs w lo a xs) (hf : fitB (primN s.toList) xs = true) :
    Calls Try.prog 24 #[.string s, .slice a xs.length cap] w fun e w' => PPost (primR (primN s.toList) xs) w e w' := by
  obtain ⟨n, hn⟩ : ∃ n, primN s.toList = n := ⟨_, rfl⟩
  have hn16 : n ≤ 16 := by rw [← hn]; exact primN_le _
  rw [hn] at hf ⊢
  obtain ⟨h0, hl⟩ := fit_len hf
  by_cases h8 : n ≤ 8
  · have : (tpArgs n).length = 2 := by unfold tpArgs; rw [if_neg h0, if_pos h8]; rfl
    obtain ⟨x, y, rfl⟩ := len_two (hl.trans this)
    obtain ⟨b, off, rfl, hb, hx, hy⟩ := h.two
    rw [prim_calc h8]
    exact l6Prim_calc s n hn lo b off cap x y w hx hy hb (by omega) h8
  have hc : n = 9 ∨ n = 10 ∨ n = 11 ∨ n = 12 ∨ n = 13 ∨ n = 14 ∨ n = 15 ∨ n = 16 := by omega
  rcases hc with rfl | rfl | rfl | rfl | rfl | rfl | rfl | rfl
  · obtain ⟨x, rfl⟩ := len_one hl
    obtain ⟨b, off, rfl, hb, hx⟩ := h.one
    exact l6Prim_9 s hn lo b off cap x w hx hb
  · obtain ⟨x, y, rfl⟩ := len_two hl
    obtain ⟨b, off, rfl, hb, hx, hy⟩ := h.two
    exact l6Prim_10 s hn lo b off cap x y w hx hy hb
  · obtain ⟨x, rfl⟩ := len_one hl
    obtain ⟨b, off, rfl, hb, hx⟩ := h.one
    exact l6Prim_11 s hn lo b off cap x w hx hb
  · obtain ⟨x, y, z, rfl⟩ := len_three hl
    obtain ⟨b, off, rfl, hb, hx, hy, hz⟩ := h.three
    exact l6Prim_12 s hn lo b off cap x y z w hx hy hz hb
  · obtain ⟨x, y, rfl⟩ := len_two hl
    obtain ⟨b, off, rfl, hb, hx, hy⟩ := h.two
    exact l6Prim_13 s hn lo b off cap x y w hx hy hb
  · obtain ⟨x, rfl⟩ := len_one hl
    obtain ⟨b, off, rfl, hb, hx⟩ := h.one
    exact l6Prim_14 s hn lo b off cap x w hx hb
  · obtain ⟨x, y, rfl⟩ := len_two hl
    obtain ⟨b, off, rfl, hb, hx, hy⟩ := h.two
    exact l6Prim_15 s hn lo b off cap x y w hx hy hb
  · obtain ⟨x, y, rfl⟩ := len_two hl
    obtain ⟨b, off, rfl, hb, hx, hy⟩ := h.two
    exact l6Prim_16 s hn lo b off cap x y w hx hy hb

set_option maxRecDepth 100000 in
set_option maxHeartbeats 2000000 in
theorem MeanPrimS_any (s : ByteArray) (lo : Nat) (a : Option Addr) (cap : Nat) (xs : List MV) (w : World) (h : Mvs w lo a xs) (hl : xs.length ≤ 1048576) :
    Calls Try.prog 8 #[.string s, .slice a xs.length cap] w fun e w' => PPost (meanR (primN s.toList) xs) w e w' := by
  have HFIT := hide (fun W hb => l6Fits_any s lo a cap xs W (h.kept hb) hl)
  have HPR := hide (fun (W : World) (hb : Below w.heap.size w W) (hf : fitB (primN s.toList) xs = true) => l6Prim_any s lo a cap xs W (h.kept hb) hf)
  unfold meanR
  obtain ⟨fb, hfb⟩ : ∃ t, fitB (primN s.toList) xs = t := ⟨_, rfl⟩
  rw [hfb] at HFIT HPR ⊢
  obtain ⟨⟨⟨kd, nu, rr⟩, co⟩, hR⟩ : ∃ R, primR (primN s.toList) xs = R := ⟨_, rfl⟩
  rw [hR] at HPR ⊢
  clear hfb hR h
  cases fb
  · show Calls Try.prog 8 #[.string s, .slice a xs.length cap] w fun e w' => PPost (⟨0, 0, []⟩, -1) w e w'
    go_enter Try.func8, Try.ntmps8
    go_wp2_with fail
    refine (unhide HFIT _ (below_new _ _)).mono ?_
    rintro r w2 ⟨rfl, hb2⟩
    have hblk : Blk w2 w.heap.size [Value.int .i64 0, Value.int .i64 0, Value.slice none 0 0] := (Blk.new w [Value.int .i64 0, Value.int .i64 0, Value.slice none 0 0] 28).below hb2 (by simp)
    have HBB := hide ((below_new w _).trans (hb2.mono (by simp)))
    have q0 := hblk.cellAt (i := 0) rfl
    have q1 := hblk.cellAt (i := 1) rfl
    have q2 := hblk.cellAt (i := 2) rfl
    have f0 := hblk.2 0
    have f1 := hblk.2 1
    have f2 := hblk.2 2
    have HBLK := hide hblk
    clear hblk hb2
    go_wp2
    have hn := (((unhide HBLK).set 0 (.int .i64 0) (by simp)).set 1 (.int .i64 0) (by simp)).set 2 (.slice none 0 0) (by simp)
    have hFB := (((unhide HBB).setCell (p := ⟨w.heap.size, 0, none⟩) (Nat.le_refl _) (.int .i64 0)).setCell (p := ⟨w.heap.size, 1, none⟩) (Nat.le_refl _) (.int .i64 0)).setCell (p := ⟨w.heap.size, 2, none⟩) (Nat.le_refl _) (.slice none 0 0)
    obtain ⟨FW, hF⟩ : ∃ FW, FW = ((w2.setCell ⟨w.heap.size, 0, none⟩ (.int .i64 0)).setCell ⟨w.heap.size, 1, none⟩ (.int .i64 0)).setCell ⟨w.heap.size, 2, none⟩ (.slice none 0 0) := ⟨_, rfl⟩
    rw [← hF] at hn hFB ⊢
    have g0 := hn.cellAt (i := 0) rfl
    have g1 := hn.cellAt (i := 1) rfl
    have g2 := hn.cellAt (i := 2) rfl
    refine bodyPost_ret (v := .tuple #[.agg #[.int .i64 0, .int .i64 0, .slice none 0 0], .int .i64 (-1)]) (by simp [results, Try.results8, go_sem, g0, g1, g2]) rfl (.plain hFB)
  · show Calls Try.prog 8 #[.string s, .slice a xs.length cap] w fun e w' => PPost (⟨kd, nu, rr⟩, co) w e w'
    go_enter Try.func8, Try.ntmps8
    go_wp2_with fail
    refine (unhide HFIT _ (below_new _ _)).mono ?_
    rintro r w1 ⟨rfl, hb1⟩
    have HB1 := hide ((below_new w _).trans (hb1.mono (by simp)))
    have HK1 := hide ((Blk.new w [Value.int .i64 0, Value.int .i64 0, Value.slice none 0 0] 28).below hb1 (by simp))
    have HS1 : Hid (w.heap.size + 1 ≤ w1.heap.size) := hide (by have := hb1.size; rw [alloc_size] at this; exact this)
    clear hb1
    go_wp2_with fail
    refine (unhide HPR _ (unhide HB1) trivial).mono ?_
    rintro r w2 ⟨v, rfl, ho, hb2⟩
    dsimp only at ho
    obtain ⟨av, cv, rfl⟩ := ho.form
    have hblk := (unhide HK1).below hb2 (by have := unhide HS1; omega)
    have HBB := hide ((unhide HB1).trans (hb2.mono (unhide HB1).size))
    have q0 := hblk.cellAt (i := 0) rfl
    have q1 := hblk.cellAt (i := 1) rfl
    have q2 := hblk.cellAt (i := 2) rfl
    have f0 := hblk.2 0
    have f1 := hblk.2 1
    have f2 := hblk.2 2
    have HBLK := hide hblk
    have OW := hide ho
    clear hblk hb2 ho
    dsimp only
    obtain ⟨LL, hLL⟩ : ∃ t, rr.length = t := ⟨_, rfl⟩
    rw [hLL] at OW ⊢
    clear hLL
    go_wp2
    have hn := (((unhide HBLK).set 0 (.int .i64 kd) (by simp)).set 1 (.int .i64 nu) (by simp)).set 2 (.slice av LL cv) (by simp)
    have hFB := (((unhide HBB).setCell (p := ⟨w.heap.size, 0, none⟩) (Nat.le_refl _) (.int .i64 kd)).setCell (p := ⟨w.heap.size, 1, none⟩) (Nat.le_refl _) (.int .i64 nu)).setCell (p := ⟨w.heap.size, 2, none⟩) (Nat.le_refl _) (.slice av LL cv)
    obtain ⟨FW, hF⟩ : ∃ FW, FW = ((w2.setCell ⟨w.heap.size, 0, none⟩ (.int .i64 kd)).setCell ⟨w.heap.size, 1, none⟩ (.int .i64 nu)).setCell ⟨w.heap.size, 2, none⟩ (.slice av LL cv) := ⟨_, rfl⟩
    rw [← hF] at hn hFB ⊢
    have g0 := hn.cellAt (i := 0) rfl
    have g1 := hn.cellAt (i := 1) rfl
    have g2 := hn.cellAt (i := 2) rfl
    refine bodyPost_ret (v := .tuple #[.agg #[.int .i64 kd, .int .i64 nu, .slice av LL cv], .int .i64 co]) (by simp [results, Try.results8, go_sem, g0, g1, g2]) rfl ?_
    refine ⟨_, rfl, ?_, hFB⟩
    rw [hF]
    have hS := unhide HS1
    exact (((((unhide OW).setE hS).setE hS).setE hS).same (fun _ _ _ => ⟨fun _ => rfl, fun _ => rfl⟩) (by omega) (by simp [World.setCell]))
end Go.Proofs.Ytjnahhalgckggaa
