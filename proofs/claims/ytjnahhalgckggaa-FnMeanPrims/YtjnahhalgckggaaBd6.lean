/- The walk of wePrim; what division is. Conditions: the values can be read. -/
import Derived.Test.YtjnahhalgckggaaBc6
namespace Go.Proofs.Ytjnahhalgckggaa
open Go.RowKit Go.PlainAid


set_option maxRecDepth 100000 in
set_option maxHeartbeats 4000000 in
theorem wePrim_any (s : ByteArray) (hs : s.size ≤ 1048576) (lo : Nat) (a : Option Addr) (cap : Nat) (xs : List MV) (w : World) (h : Mvs w lo a xs) (hl : xs.length ≤ 1048576) :
    Calls Try.prog 6 #[.string s, .slice a xs.length cap] w fun e w' => PPost (meanR (primN s.toList) xs) w e w' := by
  have hrow := meanR_row (primN s.toList) xs h.2
  have HSP := hide (fun (W : World) (hb : Below w.heap.size w W) => MeanPrimS_any s lo a cap xs W (h.kept hb) hl)
  have HIP := hide (fun (W : World) (hb : Below w.heap.size w W) => MeanPrimI_any s hs lo a cap xs W (h.kept hb) hl)
  obtain ⟨R, hR⟩ : ∃ R, meanR (primN s.toList) xs = R := ⟨_, rfl⟩
  rw [hR] at HSP HIP hrow ⊢
  obtain ⟨⟨kd, nu, rr⟩, co⟩ := R
  dsimp only at hrow
  clear h hR
  have q1 : (co != co) = false := by simp
  have q2 : (kd != kd) = false := by simp
  have q3 : (nu != nu) = false := by simp
  go_enter Try.func6, Try.ntmps6
  go_wp2_with fail
  refine (unhide HIP _ (below_new _ _)).mono ?_
  rintro r w1 ⟨v1, rfl, ho1, hb1⟩
  dsimp only at ho1
  obtain ⟨a1, c1, rfl⟩ := ho1.form
  have HB1 := hide ((below_new w _).trans (hb1.mono (by simp)))
  have HK1 := hide ((Blk.new w [Value.int .i64 0, Value.int .i64 0, Value.slice none 0 0] 28).below hb1 (by simp))
  have HS1 : Hid (w.heap.size + 1 ≤ w1.heap.size) := hide (by have := hb1.size; rw [alloc_size] at this; exact this)
  rw [alloc_size] at ho1
  have HO1 := hide ho1
  clear ho1 hb1
  dsimp only
  obtain ⟨LL, hLL⟩ : ∃ t, rr.length = t := ⟨_, rfl⟩
  have HLL := hide hLL
  rw [hLL] at HO1 hrow ⊢
  clear hLL
  have q4 : ((LL : Int) != (LL : Int)) = false := by simp
  go_wp2_with fail
  refine (unhide HSP _ ((unhide HB1).alloc (unhide HB1).size _)).mono ?_
  rintro r w2 ⟨v2, rfl, ho2, hb2⟩
  dsimp only at ho2
  obtain ⟨a2, c2, rfl⟩ := ho2.form
  rw [unhide HLL] at ho2 ⊢
  dsimp only
  obtain ⟨W, hW⟩ : ∃ W, W = w1.alloc (.cells #[.int .i64 kd, .int .i64 nu, .slice a1 LL c1] 28) := ⟨_, rfl⟩
  rw [← hW] at hb2
  have bW : Below w1.heap.size w1 W := by rw [hW]; exact below_new _ _
  have sW : W.heap.size = w1.heap.size + 1 := by rw [hW]; simp
  have kW : Blk W w1.heap.size [.int .i64 kd, .int .i64 nu, .slice a1 LL c1] := by rw [hW]; exact Blk.new w1 _ _
  have hA := kW.below hb2 (by omega)
  have A0 := hA.cellAt (i := 0) rfl
  have A1 := hA.cellAt (i := 1) rfl
  have A2 := hA.cellAt (i := 2) rfl
  have hK := ((unhide HK1).below bW (unhide HS1)).below hb2 (by have := unhide HS1; omega)
  have f0 := hK.2 0
  have f1 := hK.2 1
  have f2 := hK.2 2
  have z0 := hK.cellAt (i := 0) rfl
  have z1 := hK.cellAt (i := 1) rfl
  have z2 := hK.cellAt (i := 2) rfl
  have hn1 : w1.heap.size < w2.heap.size := by have := hb2.size; omega
  have hn0 : w.heap.size < w2.heap.size := by have := unhide HS1; omega
  have HBB := hide (((unhide HB1).trans (bW.mono (unhide HB1).size)).trans (hb2.mono (by have := unhide HS1; omega)))
  have HK2 := hide hK
  have HO2 := hide (((unhide HO1).kept bW (by omega)).kept hb2 hb2.size)
  clear ho2 hb2 hA hK bW kW hW HO1 HSP HIP
  go_wp2
  have hn := (((unhide HK2).set 0 (.int .i64 kd) (by simp)).set 1 (.int .i64 nu) (by simp)).set 2 (.slice a1 LL c1) (by simp)
  have hFB := (((unhide HBB).setCell (p := ⟨w.heap.size, 0, none⟩) (Nat.le_refl _) (.int .i64 kd)).setCell (p := ⟨w.heap.size, 1, none⟩) (Nat.le_refl _) (.int .i64 nu)).setCell (p := ⟨w.heap.size, 2, none⟩) (Nat.le_refl _) (.slice a1 LL c1)
  have hO := (((unhide HO2).setE (i := 0) (u := .int .i64 kd) (Nat.lt_succ_self _)).setE (i := 1) (u := .int .i64 nu) (Nat.lt_succ_self _)).setE (i := 2) (u := .slice a1 LL c1) (Nat.lt_succ_self _)
  obtain ⟨F0, hF⟩ : ∃ F0, F0 = ((w2.setCell ⟨w.heap.size, 0, none⟩ (.int .i64 kd)).setCell ⟨w.heap.size, 1, none⟩ (.int .i64 nu)).setCell ⟨w.heap.size, 2, none⟩ (.slice a1 LL c1) := ⟨_, rfl⟩
  have hFS : F0.heap.size = w2.heap.size := by rw [hF]; simp [World.setCell]
  rw [← hF] at hn hFB hO ⊢
  have hn2 := hn.old (.cells #[.int .i64 kd, .int .i64 nu, .slice a2 LL c2] 28) (by rw [hFS]; exact hn0)
  have hFB2 := hFB.alloc hFB.size (.cells #[.int .i64 kd, .int .i64 nu, .slice a2 LL c2] 28)
  have hO2 := hO.kept (m := (F0.alloc (.cells #[.int .i64 kd, .int .i64 nu, .slice a2 LL c2] 28)).heap.size) ((below_new F0 (.cells #[.int .i64 kd, .int .i64 nu, .slice a2 LL c2] 28)).mono (by rw [hFS]; exact Nat.le_refl _)) (by rw [alloc_size, hFS]; omega)
  obtain ⟨F1, hF1⟩ : ∃ F1, F1 = F0.alloc (.cells #[.int .i64 kd, .int .i64 nu, .slice a2 LL c2] 28) := ⟨_, rfl⟩
  rw [← hF1] at hn2 hFB2 hO2 ⊢
  have g0 := hn2.cellAt (i := 0) rfl
  have g1 := hn2.cellAt (i := 1) rfl
  have g2 := hn2.cellAt (i := 2) rfl
  refine bodyPost_ret (v := .tuple #[.agg #[.int .i64 kd, .int .i64 nu, .slice a1 LL c1], .int .i64 co]) (by simp [results, Try.results6, go_sem, g0, g1, g2]) rfl ⟨_, rfl, ?_, hFB2⟩
  exact hO2.same (fun _ _ _ => ⟨fun _ => rfl, fun _ => rfl⟩) (Nat.le_succ _) (Nat.le_refl _)
theorem wrap_in (x : Int) : -9223372036854775808 ≤ wrap64 x ∧ wrap64 x ≤ 9223372036854775807 ∧ ∃ k : Int, wrap64 x = x + k * 18446744073709551616 := by
  unfold wrap64
  refine ⟨by omega, by omega, ?_⟩
  by_cases h : 9223372036854775808 ≤ x % 18446744073709551616
  · exact ⟨-(x / 18446744073709551616) - 1, by omega⟩
  · exact ⟨-(x / 18446744073709551616), by omega⟩
theorem div_back (a b : Int) (h1 : -9223372036854775808 ≤ a) (h2 : a ≤ 9223372036854775807) : wrap64 (wrap64 (wrap64 (a.tdiv b) * b) + a.tmod b) = a := by
  obtain ⟨_, _, k1, e1⟩ := wrap_in (a.tdiv b)
  rw [e1]
  obtain ⟨_, _, k2, e2⟩ := wrap_in ((a.tdiv b + k1 * 18446744073709551616) * b)
  rw [e2]
  obtain ⟨g1, g2, k3, e3⟩ := wrap_in ((a.tdiv b + k1 * 18446744073709551616) * b + k2 * 18446744073709551616 + a.tmod b)
  have hd : a.tdiv b * b + a.tmod b = a := by have := Int.tmod_add_mul_tdiv a b; rw [Int.mul_comm] at this; omega
  have : (a.tdiv b + k1 * 18446744073709551616) * b + k2 * 18446744073709551616 + a.tmod b + k3 * 18446744073709551616 = a + (k1 * b + k2 + k3) * 18446744073709551616 := by
    rw [Int.add_mul, Int.add_mul, Int.add_mul]
    have e : k1 * 18446744073709551616 * b = k1 * b * 18446744073709551616 := by rw [Int.mul_assoc, Int.mul_comm 18446744073709551616 b, ← Int.mul_assoc]
    rw [e]
    omega
  rw [this] at e3
  rw [e3] at g1 g2 ⊢
  obtain ⟨K, hK⟩ : ∃ K, k1 * b + k2 + k3 = K := ⟨_, rfl⟩
  rw [hK] at g1 g2 ⊢
  omega
end Go.Proofs.Ytjnahhalgckggaa
