/- The walk of a generator's expr, at all depths. Conditions: the generator and the variables can be read. -/
import Derived.Test.YtffabnmgcicpiaaGreatDf
import Derived.Test.YtffabnmgcicpiaaGreatDga
namespace Go.Proofs.YtffabnmgcicpiaaGreat
open Go.RowKit Go.PlainAid


/-- The names of variables. -/
def namesV : List ByteArray := [⟨#[120]⟩, ⟨#[121]⟩, ⟨#[122]⟩]
set_option maxRecDepth 100000 in
set_option maxHeartbeats 8000000 in
theorem expr_zero : ExprD 0 := by
  intro B G a len cap sa sc ss t va vc vars w p hg hss hp hv hvl hvn
  have HBW := hide hg.hB
  obtain ⟨W1, hW1⟩ : ∃ W1, W1 = w.alloc (.cells #[.int .i64 0, .int .i64 0, .string ⟨#[]⟩, .string ⟨#[]⟩, .slice none 0 0] 31) := ⟨_, rfl⟩
  have hrd0 : RdM B a len cap 0 w W1 p p := by rw [hW1]; exact (RdM.refl hg.rd).alloc hg.hB _
  have hblk : Blk W1 w.heap.size [.int .i64 0, .int .i64 0, .string ⟨#[]⟩, .string ⟨#[]⟩, .slice none 0 0] := by rw [hW1]; exact Blk.new w [.int .i64 0, .int .i64 0, .string ⟨#[]⟩, .string ⟨#[]⟩, .slice none 0 0] 31
  have hs1 : W1.heap.size = w.heap.size + 1 := by rw [hW1]; simp
  have hMr : w.heap.size < W1.heap.size := by omega
  have HR0 := hide hrd0
  have HBr := hide hblk
  rw [Nat.pow_zero, Nat.mul_one, Nat.mul_one] at *
  have HLF := hide (leaf_any B G a len cap sa sc ss t va vc vars W1 p (hg.step hrd0) (by omega) (KeepV.step hv hrd0) (by omega) hvn)
  have HPOS : Hid (0 < 1) := hide (by omega)
  clear hg hv hvn hss hrd0 hblk hs1
  go_enter Tryz.func53, Tryz.ntmps53
  go_wp2_with fail
  rw [← hW1]
  clear hW1
  go_wp2_with fail
  refine (unhide HLF).mono ?_
  rintro r w4 ⟨v, e, q4, rfl, hke, hwe, hk4⟩
  obtain ⟨k1, m1, nm1, md1, a1, l1, c1, rfl⟩ := IsE.five hke.now
  have HBM := hide ((unhide HBr).ofb (hk4.mv.2 w.heap.size hMr (by have := unhide HBW; omega)))
  have HK4 := hide ((RdM.refl (unhide HR0).rd).trans hk4)
  have HKE := hide hke
  have HWE := hide hwe
  have q0 := (unhide HBM).cellAt (i := 0) rfl
  have q1 := (unhide HBM).cellAt (i := 1) rfl
  have q2 := (unhide HBM).cellAt (i := 2) rfl
  have q3 := (unhide HBM).cellAt (i := 3) rfl
  have q4 := (unhide HBM).cellAt (i := 4) rfl
  have f0 := (unhide HBM).2 0
  have f1 := (unhide HBM).2 1
  have f2 := (unhide HBM).2 2
  have f3 := (unhide HBM).2 3
  have f4 := (unhide HBM).2 4
  clear hke hwe hk4
  go_wp2
  have hst := ((((((StayD.refl (fun b => W1.heap.size ≤ b) w4).set w.heap.size 0 (.int .i64 k1) (fun _ h => by (try dsimp only at h); omega)).set w.heap.size 1 (.int .i64 m1) (fun _ h => by (try dsimp only at h); omega)).set w.heap.size 2 (.string nm1) (fun _ h => by (try dsimp only at h); omega)).set w.heap.size 3 (.string md1) (fun _ h => by (try dsimp only at h); omega)).set w.heap.size 4 (.slice a1 l1 c1) (fun _ h => by (try dsimp only at h); omega))
  have hn := (((((((((((unhide HBM)).set 0 (.int .i64 k1) (by simp))).set 1 (.int .i64 m1) (by simp))).set 2 (.string nm1) (by simp))).set 3 (.string md1) (by simp))).set 4 (.slice a1 l1 c1) (by simp))
  have hK := ((((((((((((unhide HR0).trans (unhide HK4))).set (unhide HBW) w.heap.size 0 (.int .i64 k1) (by omega))).set (unhide HBW) w.heap.size 1 (.int .i64 m1) (by omega))).set (unhide HBW) w.heap.size 2 (.string nm1) (by omega))).set (unhide HBW) w.heap.size 3 (.string md1) (by omega))).set (unhide HBW) w.heap.size 4 (.slice a1 l1 c1) (by omega))
  obtain ⟨FW, hF⟩ : ∃ FW, FW = (((((w4.setCell ⟨w.heap.size, 0, none⟩ (.int .i64 k1)).setCell ⟨w.heap.size, 1, none⟩ (.int .i64 m1)).setCell ⟨w.heap.size, 2, none⟩ (.string nm1)).setCell ⟨w.heap.size, 3, none⟩ (.string md1)).setCell ⟨w.heap.size, 4, none⟩ (.slice a1 l1 c1)) := ⟨_, rfl⟩
  rw [← hF] at hst hn hK ⊢
  have g0 := hn.cellAt (i := 0) rfl
  have g1 := hn.cellAt (i := 1) rfl
  have g2 := hn.cellAt (i := 2) rfl
  have g3 := hn.cellAt (i := 3) rfl
  have g4 := hn.cellAt (i := 4) rfl
  refine bodyPost_ret (v := .agg #[.int .i64 k1, .int .i64 m1, .string nm1, .string md1, .slice a1 l1 c1]) (by simp [results, Tryz.results53, go_sem, g0, g1, g2, g3, g4]) rfl ?_
  exact ⟨_, e, _, rfl, (((unhide HKE).stay hst).less (fun b _ h => by have h9 : W1.heap.size ≤ b := h; omega)).imp (fun W hW => hW.ups (by omega)), Nat.le_trans (unhide HWE) (by have := unhide HPOS; omega), hK.more (by have := unhide HPOS; omega)⟩

set_option maxRecDepth 100000 in
set_option maxHeartbeats 16000000 in
theorem expr_succ (d : Nat) (IH : ExprD d) : ExprD (d + 1) := by
  intro B G a len cap sa sc ss t va vc vars w p hg hss hp hv hvl hvn
  have HBW := hide hg.hB
  obtain ⟨W1, hW1⟩ : ∃ W1, W1 = w.alloc (.cells #[.int .i64 0, .int .i64 0, .string ⟨#[]⟩, .string ⟨#[]⟩, .slice none 0 0] 31) := ⟨_, rfl⟩
  have hrd0 : RdM B a len cap 0 w W1 p p := by rw [hW1]; exact (RdM.refl hg.rd).alloc hg.hB _
  have hblk : Blk W1 w.heap.size [.int .i64 0, .int .i64 0, .string ⟨#[]⟩, .string ⟨#[]⟩, .slice none 0 0] := by rw [hW1]; exact Blk.new w [.int .i64 0, .int .i64 0, .string ⟨#[]⟩, .string ⟨#[]⟩, .slice none 0 0] 31
  have hs1 : W1.heap.size = w.heap.size + 1 := by rw [hW1]; simp
  have hMW : w.heap.size < W1.heap.size := by omega
  have HR0 := hide hrd0
  have HBK := hide hblk
  have HG := hide (hg.step hrd0)
  have HV := hide (KeepV.step hv hrd0)
  have HVN := hide hvn
  have HSS := hide hss
  have hGw := hg.hG
  have c0 := hg.c0
  have hIH := IH
  unfold ExprD at hIH
  have HPOS : Hid (0 < 5 ^ d) := hide (Nat.pow_pos (by omega))
  have HLF := hide (fun (W : World) (q : Nat) (h1 : GenD B G a len cap sa sc ss W q) (h2 : q ≤ 900000000000) (h3 : KeepV B W va vars) => leaf_any B G a len cap sa sc ss t va vc vars W q h1 h2 h3 (by omega) hvn)
  have HPR := hide (fun (W : World) (q : Nat) (h1 : GenD B G a len cap sa sc ss W q) (h2 : q + 10 + 60 * 5 ^ d ≤ 900000000000) (h3 : KeepV B W va vars) => prim_of d IH B G a len cap sa sc ss t va vc vars W q h1 hss h2 h3 (by omega) hvn)
  have HCL := hide (fun (W : World) (q : Nat) (h1 : GenD B G a len cap sa sc ss W q) (h2 : q + 11 + 80 * 5 ^ d ≤ 900000000000) (h3 : KeepV B W va vars) => call_of d IH B G a len cap sa sc ss t va vc vars W q h1 hss h2 h3 (by omega) hvn)
  rw [Nat.pow_succ] at hp ⊢
  obtain ⟨N, hN⟩ : ∃ N, 5 ^ d = N := ⟨_, rfl⟩
  rw [hN] at hp hIH HPOS HPR HCL ⊢
  have HIH := hide hIH
  have hpos := unhide HPOS
  have HPK := hide (pick_rd B a len cap p 9 W1 (unhide HG).rd (by omega) (by omega))
  clear hg hv hvn hss hrd0 hblk hs1 IH hIH hN
  go_enter Tryz.func53, Tryz.ntmps53
  go_wp2_with fail
  rw [← hW1]
  clear hW1
  refine (unhide HPK).mono ?_
  rintro r w2 ⟨i, rfl, i0, i1, hk2, -⟩
  have i2 := i1 (by omega)
  have HR2 := hide hk2
  have hg2 := (unhide HG).step hk2
  have HG2 := hide hg2
  have c2 := hg2.c0
  have hG2 := hg2.hG
  have HBr := hide ((unhide HBK).ofb (hk2.mv.2 w.heap.size hMW (by have := unhide HBW; omega)))
  have hMr : w.heap.size < w2.heap.size := Nat.lt_of_lt_of_le hMW hk2.size
  have HV2 := hide (KeepV.step (unhide HV) hk2)
  have hcs : i = 0 ∨ i = 1 ∨ i = 2 ∨ i = 3 ∨ i = 4 ∨ i = 5 ∨ i = 6 ∨ i = 7 ∨ i = 8 := by omega
  clear i1 i0 i2 hk2 hg2 c0 hGw HPK
  rcases hcs with rfl | rfl | rfl | rfl | rfl | rfl | rfl | rfl | rfl
  · have HX := hide (unhide HLF w2 (p + 1) (unhide HG2) (by omega) (unhide HV2))
    go_wp2_with fail
    refine (unhide HX).mono ?_
    rintro r w4 ⟨v, e, q4, rfl, hke, hwe, hk4⟩
    obtain ⟨k1, m1, nm1, md1, a1, l1, c1, rfl⟩ := IsE.five hke.now
    have HBM := hide ((unhide HBr).ofb (hk4.mv.2 w.heap.size hMr (by have := unhide HBW; omega)))
    have HK4 := hide ((unhide HR2).trans hk4)
    have HKE := hide hke
    have HWE := hide hwe
    have q0 := (unhide HBM).cellAt (i := 0) rfl
    have q1 := (unhide HBM).cellAt (i := 1) rfl
    have q2 := (unhide HBM).cellAt (i := 2) rfl
    have q3 := (unhide HBM).cellAt (i := 3) rfl
    have q4 := (unhide HBM).cellAt (i := 4) rfl
    have f0 := (unhide HBM).2 0
    have f1 := (unhide HBM).2 1
    have f2 := (unhide HBM).2 2
    have f3 := (unhide HBM).2 3
    have f4 := (unhide HBM).2 4
    clear hke hwe hk4
    go_wp2
    have hst := ((((((StayD.refl (fun b => w2.heap.size ≤ b) w4).set w.heap.size 0 (.int .i64 k1) (fun _ h => by (try dsimp only at h); omega)).set w.heap.size 1 (.int .i64 m1) (fun _ h => by (try dsimp only at h); omega)).set w.heap.size 2 (.string nm1) (fun _ h => by (try dsimp only at h); omega)).set w.heap.size 3 (.string md1) (fun _ h => by (try dsimp only at h); omega)).set w.heap.size 4 (.slice a1 l1 c1) (fun _ h => by (try dsimp only at h); omega))
    have hn := (((((((((((unhide HBM)).set 0 (.int .i64 k1) (by simp))).set 1 (.int .i64 m1) (by simp))).set 2 (.string nm1) (by simp))).set 3 (.string md1) (by simp))).set 4 (.slice a1 l1 c1) (by simp))
    have hK := ((((((((((((unhide HR0).trans (unhide HK4))).set (unhide HBW) w.heap.size 0 (.int .i64 k1) (by omega))).set (unhide HBW) w.heap.size 1 (.int .i64 m1) (by omega))).set (unhide HBW) w.heap.size 2 (.string nm1) (by omega))).set (unhide HBW) w.heap.size 3 (.string md1) (by omega))).set (unhide HBW) w.heap.size 4 (.slice a1 l1 c1) (by omega))
    obtain ⟨FW, hF⟩ : ∃ FW, FW = (((((w4.setCell ⟨w.heap.size, 0, none⟩ (.int .i64 k1)).setCell ⟨w.heap.size, 1, none⟩ (.int .i64 m1)).setCell ⟨w.heap.size, 2, none⟩ (.string nm1)).setCell ⟨w.heap.size, 3, none⟩ (.string md1)).setCell ⟨w.heap.size, 4, none⟩ (.slice a1 l1 c1)) := ⟨_, rfl⟩
    rw [← hF] at hst hn hK ⊢
    have g0 := hn.cellAt (i := 0) rfl
    have g1 := hn.cellAt (i := 1) rfl
    have g2 := hn.cellAt (i := 2) rfl
    have g3 := hn.cellAt (i := 3) rfl
    have g4 := hn.cellAt (i := 4) rfl
    refine bodyPost_ret (v := .agg #[.int .i64 k1, .int .i64 m1, .string nm1, .string md1, .slice a1 l1 c1]) (by simp [results, Tryz.results53, go_sem, g0, g1, g2, g3, g4]) rfl ?_
    exact ⟨_, e, _, rfl, (((unhide HKE).stay hst).less (fun b _ h => by have h9 : w2.heap.size ≤ b := h; omega)).imp (fun W hW => hW.ups (by omega)), Nat.le_trans (unhide HWE) (by have := unhide HPOS; omega), hK.more (by have := unhide HPOS; omega)⟩
  · have HX1 := hide (unhide HIH B G a len cap sa sc ss 2 va vc vars w2 (p + 1) (unhide HG2) (unhide HSS) (by omega) (unhide HV2) (by omega) (unhide HVN))
    go_wp2_with fail
    refine (unhide HX1).mono ?_
    rintro r w3 ⟨v1, e1, q1, rfl, hke1, hwe1, hk3⟩
    obtain ⟨k1, m1, nm1, md1, a1, l1, cc1, rfl⟩ := IsE.five hke1.now
    have hq1 : q1 ≤ p + 1 + 20 * N := hk3.le
    have HK3 := hide hk3
    have hg3 := (unhide HG2).step hk3
    have c3 := hg3.c0
    have hG3 := hg3.hG
    have HX2 := hide (unhide HIH B G a len cap sa sc ss t va vc vars w3 q1 hg3 (unhide HSS) (by omega) (KeepV.step (unhide HV2) hk3) (by omega) (unhide HVN))
    have HE1a := hide hke1
    have HWE1 := hide hwe1
    clear hke1 hwe1 hk3 hg3 HX1 c2 hG2
    go_wp2_with fail
    refine (unhide HX2).mono ?_
    rintro r w4 ⟨v2, e2, q2, rfl, hke2, hwe2, hk4⟩
    obtain ⟨k2, m2, nm2, md2, a2, l2, cc2, rfl⟩ := IsE.five hke2.now
    have hq2 : q2 ≤ p + 1 + 40 * N := by have := hk4.le; omega
    have HK4 := hide ((unhide HK3).trans hk4)
    have hg4 := (unhide HG2).step (unhide HK4)
    have c4 := hg4.c0
    have hG4 := hg4.hG
    have HX3 := hide (unhide HIH B G a len cap sa sc ss t va vc vars w4 q2 hg4 (unhide HSS) (by omega) (KeepV.step (unhide HV2) (unhide HK4)) (by omega) (unhide HVN))
    have hB2 := (unhide HG2).hB
    have HE1b : Hid (KeepE (fun b => w2.heap.size ≤ b) (d + 2) w4 (.agg #[.int .i64 k1, .int .i64 m1, .string nm1, .string md1, .slice a1 l1 cc1]) e1) := hide ((unhide HE1a).stay (hk4.mv.stay (fun b h => by have h9 : w2.heap.size ≤ b := h; omega)))
    have HE2a : Hid (KeepE (fun b => w2.heap.size ≤ b) (d + 2) w4 (.agg #[.int .i64 k2, .int .i64 m2, .string nm2, .string md2, .slice a2 l2 cc2]) e2) := hide (hke2.less (fun b _ h => by have h9 : w3.heap.size ≤ b := h; have := (unhide HK3).size; omega))
    have HWE2 := hide hwe2
    clear hke2 hwe2 hk4 hg4 HX2 c3 hG3 HE1a hB2
    go_wp2_with fail
    refine (unhide HX3).mono ?_
    rintro r w5 ⟨v3, e3, q3, rfl, hke3, hwe3, hk5⟩
    obtain ⟨k3, m3, nm3, md3, a3, l3, cc3, rfl⟩ := IsE.five hke3.now
    have hB2 := (unhide HG2).hB
    have HE1 : Hid (KeepE (fun b => w2.heap.size ≤ b) (d + 2) w5 (.agg #[.int .i64 k1, .int .i64 m1, .string nm1, .string md1, .slice a1 l1 cc1]) e1) := hide ((unhide HE1b).stay (hk5.mv.stay (fun b h => by have h9 : w2.heap.size ≤ b := h; omega)))
    have HE2 : Hid (KeepE (fun b => w2.heap.size ≤ b) (d + 2) w5 (.agg #[.int .i64 k2, .int .i64 m2, .string nm2, .string md2, .slice a2 l2 cc2]) e2) := hide ((unhide HE2a).stay (hk5.mv.stay (fun b h => by have h9 : w2.heap.size ≤ b := h; omega)))
    have HE3 : Hid (KeepE (fun b => w2.heap.size ≤ b) (d + 2) w5 (.agg #[.int .i64 k3, .int .i64 m3, .string nm3, .string md3, .slice a3 l3 cc3]) e3) := hide (hke3.less (fun b _ h => by have h9 : w4.heap.size ≤ b := h; have := (unhide HK4).size; omega))
    have HK5 := hide ((unhide HR2).trans ((unhide HK4).trans hk5))
    have HBM := hide ((unhide HBr).ofb (((unhide HK4).trans hk5).mv.2 w.heap.size hMr (by have := unhide HBW; omega)))
    have HSZ : Hid (w2.heap.size ≤ w5.heap.size) := hide ((unhide HK4).trans hk5).size
    have HWE3 := hide hwe3
    have hM5 : w.heap.size < w5.heap.size := Nat.lt_of_lt_of_le hMr (unhide HSZ)
    clear hke3 hwe3 hk5 hB2 c4 hG4
    have q0' := (unhide HBM).cellAt (i := 0) rfl
    have q1' := (unhide HBM).cellAt (i := 1) rfl
    have q2' := (unhide HBM).cellAt (i := 2) rfl
    have q3' := (unhide HBM).cellAt (i := 3) rfl
    have q4' := (unhide HBM).cellAt (i := 4) rfl
    have f0 := (unhide HBM).2 0
    have f1 := (unhide HBM).2 1
    have f2 := (unhide HBM).2 2
    have f3 := (unhide HBM).2 3
    have f4 := (unhide HBM).2 4
    go_wp2
    have hsz : (((((w5.setCell ⟨w.heap.size, 0, none⟩ (.int .i64 5)).setCell ⟨w.heap.size, 1, none⟩ (.int .i64 0)).setCell ⟨w.heap.size, 2, none⟩ (.string ⟨#[]⟩)).setCell ⟨w.heap.size, 3, none⟩ (.string ⟨#[]⟩)).setCell ⟨w.heap.size, 4, none⟩ (.slice (some ⟨w5.heap.size, 0, none⟩) 3 3)).heap.size = w5.heap.size := by simp [World.setCell]
    have hkids : KpD (fun b => w2.heap.size ≤ b) ((((((w5.setCell ⟨w.heap.size, 0, none⟩ (.int .i64 5)).setCell ⟨w.heap.size, 1, none⟩ (.int .i64 0)).setCell ⟨w.heap.size, 2, none⟩ (.string ⟨#[]⟩)).setCell ⟨w.heap.size, 3, none⟩ (.string ⟨#[]⟩)).setCell ⟨w.heap.size, 4, none⟩ (.slice (some ⟨w5.heap.size, 0, none⟩) 3 3)).alloc (.cells #[.int .i64 k1, .int .i64 m1, .string nm1, .string md1, .slice a1 l1 cc1, .int .i64 k2, .int .i64 m2, .string nm2, .string md2, .slice a2 l2 cc2, .int .i64 k3, .int .i64 m3, .string nm3, .string md3, .slice a3 l3 cc3] 31)) (fun W => IsKids (IsE W 0 W.heap.size (d + 2)) W 0 W.heap.size (some ⟨(((((w5.setCell ⟨w.heap.size, 0, none⟩ (.int .i64 5)).setCell ⟨w.heap.size, 1, none⟩ (.int .i64 0)).setCell ⟨w.heap.size, 2, none⟩ (.string ⟨#[]⟩)).setCell ⟨w.heap.size, 3, none⟩ (.string ⟨#[]⟩)).setCell ⟨w.heap.size, 4, none⟩ (.slice (some ⟨w5.heap.size, 0, none⟩) 3 3)).heap.size, 0, none⟩) [e1, e2, e3]) := lit_alloc (w := (((((w5.setCell ⟨w.heap.size, 0, none⟩ (.int .i64 5)).setCell ⟨w.heap.size, 1, none⟩ (.int .i64 0)).setCell ⟨w.heap.size, 2, none⟩ (.string ⟨#[]⟩)).setCell ⟨w.heap.size, 3, none⟩ (.string ⟨#[]⟩)).setCell ⟨w.heap.size, 4, none⟩ (.slice (some ⟨w5.heap.size, 0, none⟩) 3 3))) [(e1, [.int .i64 k1, .int .i64 m1, .string nm1, .string md1, .slice a1 l1 cc1]), (e2, [.int .i64 k2, .int .i64 m2, .string nm2, .string md2, .slice a2 l2 cc2]), (e3, [.int .i64 k3, .int .i64 m3, .string nm3, .string md3, .slice a3 l3 cc3])] 31 (by rw [hsz]; exact (unhide HSZ)) (by
      intro p hp
      simp only [List.mem_cons, List.not_mem_nil, or_false] at hp
      rcases hp with rfl | rfl | rfl
      all_goals exact ⟨rfl, fun u hu => by simp only [List.mem_cons, List.not_mem_nil, or_false] at hu; rcases hu with rfl | rfl | rfl | rfl | rfl <;> rfl⟩) (by
      intro p hp
      simp only [List.mem_cons, List.not_mem_nil, or_false] at hp
      rcases hp with rfl | rfl | rfl
      · exact ((unhide HE1).stay ((((((StayD.refl (fun b => w2.heap.size ≤ b) w5).set w.heap.size 0 (.int .i64 5) (fun _ h => by (try dsimp only at h); omega)).set w.heap.size 1 (.int .i64 0) (fun _ h => by (try dsimp only at h); omega)).set w.heap.size 2 (.string ⟨#[]⟩) (fun _ h => by (try dsimp only at h); omega)).set w.heap.size 3 (.string ⟨#[]⟩) (fun _ h => by (try dsimp only at h); omega)).set w.heap.size 4 (.slice (some ⟨w5.heap.size, 0, none⟩) 3 3) (fun _ h => by (try dsimp only at h); omega))).imp (fun W hW => EltE.of hW)
      · exact ((unhide HE2).stay ((((((StayD.refl (fun b => w2.heap.size ≤ b) w5).set w.heap.size 0 (.int .i64 5) (fun _ h => by (try dsimp only at h); omega)).set w.heap.size 1 (.int .i64 0) (fun _ h => by (try dsimp only at h); omega)).set w.heap.size 2 (.string ⟨#[]⟩) (fun _ h => by (try dsimp only at h); omega)).set w.heap.size 3 (.string ⟨#[]⟩) (fun _ h => by (try dsimp only at h); omega)).set w.heap.size 4 (.slice (some ⟨w5.heap.size, 0, none⟩) 3 3) (fun _ h => by (try dsimp only at h); omega))).imp (fun W hW => EltE.of hW)
      · exact ((unhide HE3).stay ((((((StayD.refl (fun b => w2.heap.size ≤ b) w5).set w.heap.size 0 (.int .i64 5) (fun _ h => by (try dsimp only at h); omega)).set w.heap.size 1 (.int .i64 0) (fun _ h => by (try dsimp only at h); omega)).set w.heap.size 2 (.string ⟨#[]⟩) (fun _ h => by (try dsimp only at h); omega)).set w.heap.size 3 (.string ⟨#[]⟩) (fun _ h => by (try dsimp only at h); omega)).set w.heap.size 4 (.slice (some ⟨w5.heap.size, 0, none⟩) 3 3) (fun _ h => by (try dsimp only at h); omega))).imp (fun W hW => EltE.of hW))
    rw [hsz] at hkids
    have hn := (((((((((((((unhide HBM)).set 0 (.int .i64 5) (by simp))).set 1 (.int .i64 0) (by simp))).set 2 (.string ⟨#[]⟩) (by simp))).set 3 (.string ⟨#[]⟩) (by simp))).set 4 (.slice (some ⟨w5.heap.size, 0, none⟩) 3 3) (by simp))).old (.cells #[.int .i64 k1, .int .i64 m1, .string nm1, .string md1, .slice a1 l1 cc1, .int .i64 k2, .int .i64 m2, .string nm2, .string md2, .slice a2 l2 cc2, .int .i64 k3, .int .i64 m3, .string nm3, .string md3, .slice a3 l3 cc3] 31) (by simp [World.setCell]; exact hM5))
    have hK := ((((((((((((((unhide HR0).trans (unhide HK5))).set (unhide HBW) w.heap.size 0 (.int .i64 5) (by omega))).set (unhide HBW) w.heap.size 1 (.int .i64 0) (by omega))).set (unhide HBW) w.heap.size 2 (.string ⟨#[]⟩) (by omega))).set (unhide HBW) w.heap.size 3 (.string ⟨#[]⟩) (by omega))).set (unhide HBW) w.heap.size 4 (.slice (some ⟨w5.heap.size, 0, none⟩) 3 3) (by omega))).alloc (unhide HBW) (.cells #[.int .i64 k1, .int .i64 m1, .string nm1, .string md1, .slice a1 l1 cc1, .int .i64 k2, .int .i64 m2, .string nm2, .string md2, .slice a2 l2 cc2, .int .i64 k3, .int .i64 m3, .string nm3, .string md3, .slice a3 l3 cc3] 31))
    obtain ⟨FW, hF⟩ : ∃ FW, FW = ((((((w5.setCell ⟨w.heap.size, 0, none⟩ (.int .i64 5)).setCell ⟨w.heap.size, 1, none⟩ (.int .i64 0)).setCell ⟨w.heap.size, 2, none⟩ (.string ⟨#[]⟩)).setCell ⟨w.heap.size, 3, none⟩ (.string ⟨#[]⟩)).setCell ⟨w.heap.size, 4, none⟩ (.slice (some ⟨w5.heap.size, 0, none⟩) 3 3)).alloc (.cells #[.int .i64 k1, .int .i64 m1, .string nm1, .string md1, .slice a1 l1 cc1, .int .i64 k2, .int .i64 m2, .string nm2, .string md2, .slice a2 l2 cc2, .int .i64 k3, .int .i64 m3, .string nm3, .string md3, .slice a3 l3 cc3] 31)) := ⟨_, rfl⟩
    rw [← hF] at hkids hn hK ⊢
    have g0 := hn.cellAt (i := 0) rfl
    have g1 := hn.cellAt (i := 1) rfl
    have g2 := hn.cellAt (i := 2) rfl
    have g3 := hn.cellAt (i := 3) rfl
    have g4 := hn.cellAt (i := 4) rfl
    refine bodyPost_ret (v := .agg #[.int .i64 5, .int .i64 0, .string ⟨#[]⟩, .string ⟨#[]⟩, .slice (some ⟨w5.heap.size, 0, none⟩) 3 3]) (by simp [results, Tryz.results53, go_sem, g0, g1, g2, g3, g4]) rfl ?_
    exact ⟨_, .node 5 0 ⟨#[]⟩ ⟨#[]⟩ [e1, e2, e3], _, rfl, (keepE_node (n := 3) hkids rfl (by omega) (Nat.zero_le _) (Nat.zero_le _)).less (fun b _ h => by have h9 : w2.heap.size ≤ b := h; omega), by have h1 := unhide HWE1; have h2 := unhide HWE2; have h3 := unhide HWE3; simp only [TE.wt, wtL, emp_size, List.length_cons, List.length_nil]; omega, hK.more (by omega)⟩
  · have HX1 := hide (unhide HIH B G a len cap sa sc ss 2 va vc vars w2 (p + 1) (unhide HG2) (unhide HSS) (by omega) (unhide HV2) (by omega) (unhide HVN))
    go_wp2_with fail
    refine (unhide HX1).mono ?_
    rintro r w3 ⟨v1, e1, q1, rfl, hke1, hwe1, hk3⟩
    obtain ⟨k1, m1, nm1, md1, a1, l1, cc1, rfl⟩ := IsE.five hke1.now
    have hq1 : q1 ≤ p + 1 + 20 * N := hk3.le
    have HK3 := hide hk3
    have hg3 := (unhide HG2).step hk3
    have c3 := hg3.c0
    have hG3 := hg3.hG
    have HX2 := hide (unhide HIH B G a len cap sa sc ss t va vc vars w3 q1 hg3 (unhide HSS) (by omega) (KeepV.step (unhide HV2) hk3) (by omega) (unhide HVN))
    have HE1a := hide hke1
    have HWE1 := hide hwe1
    clear hke1 hwe1 hk3 hg3 HX1 c2 hG2
    go_wp2_with fail
    refine (unhide HX2).mono ?_
    rintro r w4 ⟨v2, e2, q2, rfl, hke2, hwe2, hk4⟩
    obtain ⟨k2, m2, nm2, md2, a2, l2, cc2, rfl⟩ := IsE.five hke2.now
    have hq2 : q2 ≤ p + 1 + 40 * N := by have := hk4.le; omega
    have HK4 := hide ((unhide HK3).trans hk4)
    have hg4 := (unhide HG2).step (unhide HK4)
    have c4 := hg4.c0
    have hG4 := hg4.hG
    have HX3 := hide (unhide HIH B G a len cap sa sc ss t va vc vars w4 q2 hg4 (unhide HSS) (by omega) (KeepV.step (unhide HV2) (unhide HK4)) (by omega) (unhide HVN))
    have hB2 := (unhide HG2).hB
    have HE1b : Hid (KeepE (fun b => w2.heap.size ≤ b) (d + 2) w4 (.agg #[.int .i64 k1, .int .i64 m1, .string nm1, .string md1, .slice a1 l1 cc1]) e1) := hide ((unhide HE1a).stay (hk4.mv.stay (fun b h => by have h9 : w2.heap.size ≤ b := h; omega)))
    have HE2a : Hid (KeepE (fun b => w2.heap.size ≤ b) (d + 2) w4 (.agg #[.int .i64 k2, .int .i64 m2, .string nm2, .string md2, .slice a2 l2 cc2]) e2) := hide (hke2.less (fun b _ h => by have h9 : w3.heap.size ≤ b := h; have := (unhide HK3).size; omega))
    have HWE2 := hide hwe2
    clear hke2 hwe2 hk4 hg4 HX2 c3 hG3 HE1a hB2
    go_wp2_with fail
    refine (unhide HX3).mono ?_
    rintro r w5 ⟨v3, e3, q3, rfl, hke3, hwe3, hk5⟩
    obtain ⟨k3, m3, nm3, md3, a3, l3, cc3, rfl⟩ := IsE.five hke3.now
    have hB2 := (unhide HG2).hB
    have HE1 : Hid (KeepE (fun b => w2.heap.size ≤ b) (d + 2) w5 (.agg #[.int .i64 k1, .int .i64 m1, .string nm1, .string md1, .slice a1 l1 cc1]) e1) := hide ((unhide HE1b).stay (hk5.mv.stay (fun b h => by have h9 : w2.heap.size ≤ b := h; omega)))
    have HE2 : Hid (KeepE (fun b => w2.heap.size ≤ b) (d + 2) w5 (.agg #[.int .i64 k2, .int .i64 m2, .string nm2, .string md2, .slice a2 l2 cc2]) e2) := hide ((unhide HE2a).stay (hk5.mv.stay (fun b h => by have h9 : w2.heap.size ≤ b := h; omega)))
    have HE3 : Hid (KeepE (fun b => w2.heap.size ≤ b) (d + 2) w5 (.agg #[.int .i64 k3, .int .i64 m3, .string nm3, .string md3, .slice a3 l3 cc3]) e3) := hide (hke3.less (fun b _ h => by have h9 : w4.heap.size ≤ b := h; have := (unhide HK4).size; omega))
    have HK5 := hide ((unhide HR2).trans ((unhide HK4).trans hk5))
    have HBM := hide ((unhide HBr).ofb (((unhide HK4).trans hk5).mv.2 w.heap.size hMr (by have := unhide HBW; omega)))
    have HSZ : Hid (w2.heap.size ≤ w5.heap.size) := hide ((unhide HK4).trans hk5).size
    have HWE3 := hide hwe3
    have hM5 : w.heap.size < w5.heap.size := Nat.lt_of_lt_of_le hMr (unhide HSZ)
    clear hke3 hwe3 hk5 hB2 c4 hG4
    have q0' := (unhide HBM).cellAt (i := 0) rfl
    have q1' := (unhide HBM).cellAt (i := 1) rfl
    have q2' := (unhide HBM).cellAt (i := 2) rfl
    have q3' := (unhide HBM).cellAt (i := 3) rfl
    have q4' := (unhide HBM).cellAt (i := 4) rfl
    have f0 := (unhide HBM).2 0
    have f1 := (unhide HBM).2 1
    have f2 := (unhide HBM).2 2
    have f3 := (unhide HBM).2 3
    have f4 := (unhide HBM).2 4
    go_wp2
    have hsz : (((((w5.setCell ⟨w.heap.size, 0, none⟩ (.int .i64 5)).setCell ⟨w.heap.size, 1, none⟩ (.int .i64 0)).setCell ⟨w.heap.size, 2, none⟩ (.string ⟨#[]⟩)).setCell ⟨w.heap.size, 3, none⟩ (.string ⟨#[]⟩)).setCell ⟨w.heap.size, 4, none⟩ (.slice (some ⟨w5.heap.size, 0, none⟩) 3 3)).heap.size = w5.heap.size := by simp [World.setCell]
    have hkids : KpD (fun b => w2.heap.size ≤ b) ((((((w5.setCell ⟨w.heap.size, 0, none⟩ (.int .i64 5)).setCell ⟨w.heap.size, 1, none⟩ (.int .i64 0)).setCell ⟨w.heap.size, 2, none⟩ (.string ⟨#[]⟩)).setCell ⟨w.heap.size, 3, none⟩ (.string ⟨#[]⟩)).setCell ⟨w.heap.size, 4, none⟩ (.slice (some ⟨w5.heap.size, 0, none⟩) 3 3)).alloc (.cells #[.int .i64 k1, .int .i64 m1, .string nm1, .string md1, .slice a1 l1 cc1, .int .i64 k2, .int .i64 m2, .string nm2, .string md2, .slice a2 l2 cc2, .int .i64 k3, .int .i64 m3, .string nm3, .string md3, .slice a3 l3 cc3] 31)) (fun W => IsKids (IsE W 0 W.heap.size (d + 2)) W 0 W.heap.size (some ⟨(((((w5.setCell ⟨w.heap.size, 0, none⟩ (.int .i64 5)).setCell ⟨w.heap.size, 1, none⟩ (.int .i64 0)).setCell ⟨w.heap.size, 2, none⟩ (.string ⟨#[]⟩)).setCell ⟨w.heap.size, 3, none⟩ (.string ⟨#[]⟩)).setCell ⟨w.heap.size, 4, none⟩ (.slice (some ⟨w5.heap.size, 0, none⟩) 3 3)).heap.size, 0, none⟩) [e1, e2, e3]) := lit_alloc (w := (((((w5.setCell ⟨w.heap.size, 0, none⟩ (.int .i64 5)).setCell ⟨w.heap.size, 1, none⟩ (.int .i64 0)).setCell ⟨w.heap.size, 2, none⟩ (.string ⟨#[]⟩)).setCell ⟨w.heap.size, 3, none⟩ (.string ⟨#[]⟩)).setCell ⟨w.heap.size, 4, none⟩ (.slice (some ⟨w5.heap.size, 0, none⟩) 3 3))) [(e1, [.int .i64 k1, .int .i64 m1, .string nm1, .string md1, .slice a1 l1 cc1]), (e2, [.int .i64 k2, .int .i64 m2, .string nm2, .string md2, .slice a2 l2 cc2]), (e3, [.int .i64 k3, .int .i64 m3, .string nm3, .string md3, .slice a3 l3 cc3])] 31 (by rw [hsz]; exact (unhide HSZ)) (by
      intro p hp
      simp only [List.mem_cons, List.not_mem_nil, or_false] at hp
      rcases hp with rfl | rfl | rfl
      all_goals exact ⟨rfl, fun u hu => by simp only [List.mem_cons, List.not_mem_nil, or_false] at hu; rcases hu with rfl | rfl | rfl | rfl | rfl <;> rfl⟩) (by
      intro p hp
      simp only [List.mem_cons, List.not_mem_nil, or_false] at hp
      rcases hp with rfl | rfl | rfl
      · exact ((unhide HE1).stay ((((((StayD.refl (fun b => w2.heap.size ≤ b) w5).set w.heap.size 0 (.int .i64 5) (fun _ h => by (try dsimp only at h); omega)).set w.heap.size 1 (.int .i64 0) (fun _ h => by (try dsimp only at h); omega)).set w.heap.size 2 (.string ⟨#[]⟩) (fun _ h => by (try dsimp only at h); omega)).set w.heap.size 3 (.string ⟨#[]⟩) (fun _ h => by (try dsimp only at h); omega)).set w.heap.size 4 (.slice (some ⟨w5.heap.size, 0, none⟩) 3 3) (fun _ h => by (try dsimp only at h); omega))).imp (fun W hW => EltE.of hW)
      · exact ((unhide HE2).stay ((((((StayD.refl (fun b => w2.heap.size ≤ b) w5).set w.heap.size 0 (.int .i64 5) (fun _ h => by (try dsimp only at h); omega)).set w.heap.size 1 (.int .i64 0) (fun _ h => by (try dsimp only at h); omega)).set w.heap.size 2 (.string ⟨#[]⟩) (fun _ h => by (try dsimp only at h); omega)).set w.heap.size 3 (.string ⟨#[]⟩) (fun _ h => by (try dsimp only at h); omega)).set w.heap.size 4 (.slice (some ⟨w5.heap.size, 0, none⟩) 3 3) (fun _ h => by (try dsimp only at h); omega))).imp (fun W hW => EltE.of hW)
      · exact ((unhide HE3).stay ((((((StayD.refl (fun b => w2.heap.size ≤ b) w5).set w.heap.size 0 (.int .i64 5) (fun _ h => by (try dsimp only at h); omega)).set w.heap.size 1 (.int .i64 0) (fun _ h => by (try dsimp only at h); omega)).set w.heap.size 2 (.string ⟨#[]⟩) (fun _ h => by (try dsimp only at h); omega)).set w.heap.size 3 (.string ⟨#[]⟩) (fun _ h => by (try dsimp only at h); omega)).set w.heap.size 4 (.slice (some ⟨w5.heap.size, 0, none⟩) 3 3) (fun _ h => by (try dsimp only at h); omega))).imp (fun W hW => EltE.of hW))
    rw [hsz] at hkids
    have hn := (((((((((((((unhide HBM)).set 0 (.int .i64 5) (by simp))).set 1 (.int .i64 0) (by simp))).set 2 (.string ⟨#[]⟩) (by simp))).set 3 (.string ⟨#[]⟩) (by simp))).set 4 (.slice (some ⟨w5.heap.size, 0, none⟩) 3 3) (by simp))).old (.cells #[.int .i64 k1, .int .i64 m1, .string nm1, .string md1, .slice a1 l1 cc1, .int .i64 k2, .int .i64 m2, .string nm2, .string md2, .slice a2 l2 cc2, .int .i64 k3, .int .i64 m3, .string nm3, .string md3, .slice a3 l3 cc3] 31) (by simp [World.setCell]; exact hM5))
    have hK := ((((((((((((((unhide HR0).trans (unhide HK5))).set (unhide HBW) w.heap.size 0 (.int .i64 5) (by omega))).set (unhide HBW) w.heap.size 1 (.int .i64 0) (by omega))).set (unhide HBW) w.heap.size 2 (.string ⟨#[]⟩) (by omega))).set (unhide HBW) w.heap.size 3 (.string ⟨#[]⟩) (by omega))).set (unhide HBW) w.heap.size 4 (.slice (some ⟨w5.heap.size, 0, none⟩) 3 3) (by omega))).alloc (unhide HBW) (.cells #[.int .i64 k1, .int .i64 m1, .string nm1, .string md1, .slice a1 l1 cc1, .int .i64 k2, .int .i64 m2, .string nm2, .string md2, .slice a2 l2 cc2, .int .i64 k3, .int .i64 m3, .string nm3, .string md3, .slice a3 l3 cc3] 31))
    obtain ⟨FW, hF⟩ : ∃ FW, FW = ((((((w5.setCell ⟨w.heap.size, 0, none⟩ (.int .i64 5)).setCell ⟨w.heap.size, 1, none⟩ (.int .i64 0)).setCell ⟨w.heap.size, 2, none⟩ (.string ⟨#[]⟩)).setCell ⟨w.heap.size, 3, none⟩ (.string ⟨#[]⟩)).setCell ⟨w.heap.size, 4, none⟩ (.slice (some ⟨w5.heap.size, 0, none⟩) 3 3)).alloc (.cells #[.int .i64 k1, .int .i64 m1, .string nm1, .string md1, .slice a1 l1 cc1, .int .i64 k2, .int .i64 m2, .string nm2, .string md2, .slice a2 l2 cc2, .int .i64 k3, .int .i64 m3, .string nm3, .string md3, .slice a3 l3 cc3] 31)) := ⟨_, rfl⟩
    rw [← hF] at hkids hn hK ⊢
    have g0 := hn.cellAt (i := 0) rfl
    have g1 := hn.cellAt (i := 1) rfl
    have g2 := hn.cellAt (i := 2) rfl
    have g3 := hn.cellAt (i := 3) rfl
    have g4 := hn.cellAt (i := 4) rfl
    refine bodyPost_ret (v := .agg #[.int .i64 5, .int .i64 0, .string ⟨#[]⟩, .string ⟨#[]⟩, .slice (some ⟨w5.heap.size, 0, none⟩) 3 3]) (by simp [results, Tryz.results53, go_sem, g0, g1, g2, g3, g4]) rfl ?_
    exact ⟨_, .node 5 0 ⟨#[]⟩ ⟨#[]⟩ [e1, e2, e3], _, rfl, (keepE_node (n := 3) hkids rfl (by omega) (Nat.zero_le _) (Nat.zero_le _)).less (fun b _ h => by have h9 : w2.heap.size ≤ b := h; omega), by have h1 := unhide HWE1; have h2 := unhide HWE2; have h3 := unhide HWE3; simp only [TE.wt, wtL, emp_size, List.length_cons, List.length_nil]; omega, hK.more (by omega)⟩
  · go_wp2_with fail
    refine (pick_rd B a len cap (p + 1) 3 w2 (unhide HG2).rd (by omega) (by omega)).mono ?_
    rintro r w3 ⟨u, rfl, u0, u1, hk3, -⟩
    have hg3 := (unhide HG2).step hk3
    have c3 := hg3.c0
    have hG3 := hg3.hG
    go_wp2_with fail
    refine (ofL_rd B w3.heap.size 3 namesV a len cap (p + 1 + 1) _ (hg3.rd.kept ((below_one w3 _).mono hg3.hB)) (by omega) (by have := hg3.hB; omega) (by decide) (by decide) (wordsL_new w3 namesV _ rfl)).mono ?_
    rintro r w4 ⟨x, hx, rfl, hk4, -⟩
    have hg4 := (hg3.step (RdM.alloc (RdM.refl hg3.rd) hg3.hB (.cells #[.string ⟨#[120]⟩, .string ⟨#[121]⟩, .string ⟨#[122]⟩] 9))).step hk4
    have c4 := hg4.c0
    have hG4 := hg4.hG
    have hg5 := hg4.step (RdM.alloc (RdM.refl hg4.rd) hg4.hB (.cells #[] 75))
    have hk24 := (hk3.alloc (unhide HG2).hB (.cells #[.string ⟨#[120]⟩, .string ⟨#[121]⟩, .string ⟨#[122]⟩] 9)).trans hk4
    have hv4 := KeepV.step (unhide HV2) hk24
    obtain ⟨v1, Y, r1, o1, y1⟩ := app_varsY (w4.alloc (.cells #[] 75)) w4.heap.size w4.heap.size 0 (w4.alloc (.cells #[] 75)).heap.size va vc vars (World.ownsRow_made w4 #[] 0 (Nat.le_refl _) (by unfold maxLen; omega) (by simp)) (hv4.stay ((StayD.refl _ w4).alloc _)).now (by omega) (by simp)
    have hs1 : w4.heap.size + 1 ≤ Y.heap.size := by have := y1.size; rw [alloc_size] at this; exact this
    have o1' : (Y.alloc (.cells #[.string x, .int .i64 (1 + u)] 75)).ownsRow w4.heap.size 75 2 v1 vars.length (flatAY vars) := o1.alloc _
    obtain ⟨z, Z, r2, o2, b2⟩ := app_oneY (Y.alloc (.cells #[.string x, .int .i64 (1 + u)] 75)) w4.heap.size vars.length Y.heap.size v1 vars x (1 + u) o1' ⟨alloc_cell _ _ _ _, alloc_cell _ _ _ _⟩ (by omega) (by rw [alloc_size]; omega)
    have bZ : Below w4.heap.size w4 Z := (((Below.refl w4.heap.size w4).alloc (Nat.le_refl _) _).grown y1 (by rw [alloc_size]; omega) (fun k hk => by cases hk; exact Nat.le_refl _)).trans (((Below.refl w4.heap.size Y).alloc (by omega) _).trans b2)
    have hxs : x.size ≤ 8 := by
      simp only [namesV, List.mem_cons, List.not_mem_nil, or_false] at hx
      rcases hx with rfl | rfl | rfl <;> decide
    obtain ⟨more, hmore⟩ : ∃ m, vars ++ [⟨x, 1 + u⟩] = m := ⟨_, rfl⟩
    have hml : more.length = vars.length + 1 := by rw [← hmore]; simp
    have hmn : ∀ y ∈ more, y.name.size ≤ 8 := by
      rw [← hmore]
      intro y hy
      rcases List.mem_append.1 hy with hy | hy
      · exact unhide HVN y hy
      · rw [List.mem_singleton] at hy; subst hy; exact hxs
    rw [hmore] at o2
    obtain ⟨za, zc, rfl, hzr⟩ := args_rowY o2 hml.symm (fun y hy => by have := hmn y hy; unfold maxLen; omega)
    have hk2Z := hk24.below (unhide HG2).hB bZ
    have hgZ := (unhide HG2).step hk2Z
    have hvZ := KeepV.step (unhide HV2) hk2Z
    have hmZ : Hid (KeepV B Z za more) := hide (fun W hW => hzr.mono (fun v e he => he) (fun b h1 h2 => hW.2 b h2 (by have := hg4.hB; omega)) (Nat.zero_le _) hW.1)
    have HX1 := hide (unhide HIH B G a len cap sa sc ss (1 + u) va vc vars Z (p + 1 + 1 + 1) hgZ (unhide HSS) (by omega) hvZ (by omega) (unhide HVN))
    have HKZ := hide hk2Z
    have HML := hide hml
    have HMN := hide hmn
    have HXS := hide hxs
    have cZ := hgZ.c0
    have hGZ := hgZ.hG
    rw [hml] at r2
    clear hg5 hg4 hg3 hk24 hv4 o1 y1 o1' o2 b2 bZ hzr hgZ hvZ hmn hk2Z hx hmore hs1 c2 hG2 c3 hG3 c4 hG4 hk3 hk4 hxs
    rw [← unhide HML] at r2
    clear hml
    go_wp2_with (at_builtin; first | refine wpList_runD rfl (.tmp 65) (.tmp 66) 29 rfl rfl (.slice (some ⟨w4.heap.size, 0, none⟩) 0 0) (.slice va vars.length vc) rfl rfl v1 Y r1 ?_ | refine wpList_runD rfl (.tmp 67) (.tmp 71) 29 rfl rfl v1 (.slice (some ⟨Y.heap.size, 0, none⟩) 1 1) rfl rfl (.slice za more.length zc) Z r2 ?_)
    refine (unhide HX1).mono ?_
    rintro r w5 ⟨v5, e1, q1, rfl, hke1, hwe1, hk5⟩
    obtain ⟨k1, m1, nm1, md1, a1, l1, cc1, rfl⟩ := IsE.five hke1.now
    have hq1 : q1 ≤ p + 3 + 20 * N := by have := hk5.le; omega
    have HK5 := hide ((unhide HKZ).trans hk5)
    have hg5 := (unhide HG2).step (unhide HK5)
    have c5 := hg5.c0
    have hG5 := hg5.hG
    have HX2 := hide (unhide HIH B G a len cap sa sc ss t za zc more w5 q1 hg5 (unhide HSS) (by omega) (KeepV.step (unhide hmZ) hk5) (by have := unhide HML; omega) (unhide HMN))
    have HE1a := hide hke1
    have HWE1 := hide hwe1
    have HZ2 : Hid (w2.heap.size ≤ Z.heap.size) := hide (unhide HKZ).size
    clear hke1 hwe1 hk5 hg5 r1 r2
    go_wp2_with fail
    refine (unhide HX2).mono ?_
    rintro r w6 ⟨v6, e2, q2, rfl, hke2, hwe2, hk6⟩
    obtain ⟨k2, m2, nm2, md2, a2, l2, cc2, rfl⟩ := IsE.five hke2.now
    have hB2 := (unhide HG2).hB
    have HE1 : Hid (KeepE (fun b => w2.heap.size ≤ b) (d + 2) w6 (.agg #[.int .i64 k1, .int .i64 m1, .string nm1, .string md1, .slice a1 l1 cc1]) e1) := hide (((unhide HE1a).less (fun b _ h => by have h9 : Z.heap.size ≤ b := h; have := unhide HZ2; omega)).stay (hk6.mv.stay (fun b h => by have h9 : w2.heap.size ≤ b := h; omega)))
    have HE2 : Hid (KeepE (fun b => w2.heap.size ≤ b) (d + 2) w6 (.agg #[.int .i64 k2, .int .i64 m2, .string nm2, .string md2, .slice a2 l2 cc2]) e2) := hide (hke2.less (fun b _ h => by have h9 : w5.heap.size ≤ b := h; have := (unhide HK5).size; omega))
    have HK6 := hide ((unhide HR2).trans ((unhide HK5).trans hk6))
    have HBM := hide ((unhide HBr).ofb (((unhide HK5).trans hk6).mv.2 w.heap.size hMr (by have := unhide HBW; omega)))
    have HSZ : Hid (w2.heap.size ≤ w6.heap.size) := hide ((unhide HK5).trans hk6).size
    have HWE2 := hide hwe2
    have hM6 : w.heap.size < w6.heap.size := Nat.lt_of_lt_of_le hMr (unhide HSZ)
    clear hke2 hwe2 hk6 hB2 c5 hG5
    have q0' := (unhide HBM).cellAt (i := 0) rfl
    have q1' := (unhide HBM).cellAt (i := 1) rfl
    have q2' := (unhide HBM).cellAt (i := 2) rfl
    have q3' := (unhide HBM).cellAt (i := 3) rfl
    have q4' := (unhide HBM).cellAt (i := 4) rfl
    have f0 := (unhide HBM).2 0
    have f1 := (unhide HBM).2 1
    have f2 := (unhide HBM).2 2
    have f3 := (unhide HBM).2 3
    have f4 := (unhide HBM).2 4
    go_wp2
    have hsz : (((((w6.setCell ⟨w.heap.size, 0, none⟩ (.int .i64 6)).setCell ⟨w.heap.size, 1, none⟩ (.int .i64 0)).setCell ⟨w.heap.size, 2, none⟩ (.string x)).setCell ⟨w.heap.size, 3, none⟩ (.string ⟨#[]⟩)).setCell ⟨w.heap.size, 4, none⟩ (.slice (some ⟨w6.heap.size, 0, none⟩) 2 2)).heap.size = w6.heap.size := by simp [World.setCell]
    have hkids : KpD (fun b => w2.heap.size ≤ b) ((((((w6.setCell ⟨w.heap.size, 0, none⟩ (.int .i64 6)).setCell ⟨w.heap.size, 1, none⟩ (.int .i64 0)).setCell ⟨w.heap.size, 2, none⟩ (.string x)).setCell ⟨w.heap.size, 3, none⟩ (.string ⟨#[]⟩)).setCell ⟨w.heap.size, 4, none⟩ (.slice (some ⟨w6.heap.size, 0, none⟩) 2 2)).alloc (.cells #[.int .i64 k1, .int .i64 m1, .string nm1, .string md1, .slice a1 l1 cc1, .int .i64 k2, .int .i64 m2, .string nm2, .string md2, .slice a2 l2 cc2] 31)) (fun W => IsKids (IsE W 0 W.heap.size (d + 2)) W 0 W.heap.size (some ⟨(((((w6.setCell ⟨w.heap.size, 0, none⟩ (.int .i64 6)).setCell ⟨w.heap.size, 1, none⟩ (.int .i64 0)).setCell ⟨w.heap.size, 2, none⟩ (.string x)).setCell ⟨w.heap.size, 3, none⟩ (.string ⟨#[]⟩)).setCell ⟨w.heap.size, 4, none⟩ (.slice (some ⟨w6.heap.size, 0, none⟩) 2 2)).heap.size, 0, none⟩) [e1, e2]) := lit_alloc (w := (((((w6.setCell ⟨w.heap.size, 0, none⟩ (.int .i64 6)).setCell ⟨w.heap.size, 1, none⟩ (.int .i64 0)).setCell ⟨w.heap.size, 2, none⟩ (.string x)).setCell ⟨w.heap.size, 3, none⟩ (.string ⟨#[]⟩)).setCell ⟨w.heap.size, 4, none⟩ (.slice (some ⟨w6.heap.size, 0, none⟩) 2 2))) [(e1, [.int .i64 k1, .int .i64 m1, .string nm1, .string md1, .slice a1 l1 cc1]), (e2, [.int .i64 k2, .int .i64 m2, .string nm2, .string md2, .slice a2 l2 cc2])] 31 (by rw [hsz]; exact (unhide HSZ)) (by
      intro p hp
      simp only [List.mem_cons, List.not_mem_nil, or_false] at hp
      rcases hp with rfl | rfl
      all_goals exact ⟨rfl, fun u hu => by simp only [List.mem_cons, List.not_mem_nil, or_false] at hu; rcases hu with rfl | rfl | rfl | rfl | rfl <;> rfl⟩) (by
      intro p hp
      simp only [List.mem_cons, List.not_mem_nil, or_false] at hp
      rcases hp with rfl | rfl
      · exact ((unhide HE1).stay ((((((StayD.refl (fun b => w2.heap.size ≤ b) w6).set w.heap.size 0 (.int .i64 6) (fun _ h => by (try dsimp only at h); omega)).set w.heap.size 1 (.int .i64 0) (fun _ h => by (try dsimp only at h); omega)).set w.heap.size 2 (.string x) (fun _ h => by (try dsimp only at h); omega)).set w.heap.size 3 (.string ⟨#[]⟩) (fun _ h => by (try dsimp only at h); omega)).set w.heap.size 4 (.slice (some ⟨w6.heap.size, 0, none⟩) 2 2) (fun _ h => by (try dsimp only at h); omega))).imp (fun W hW => EltE.of hW)
      · exact ((unhide HE2).stay ((((((StayD.refl (fun b => w2.heap.size ≤ b) w6).set w.heap.size 0 (.int .i64 6) (fun _ h => by (try dsimp only at h); omega)).set w.heap.size 1 (.int .i64 0) (fun _ h => by (try dsimp only at h); omega)).set w.heap.size 2 (.string x) (fun _ h => by (try dsimp only at h); omega)).set w.heap.size 3 (.string ⟨#[]⟩) (fun _ h => by (try dsimp only at h); omega)).set w.heap.size 4 (.slice (some ⟨w6.heap.size, 0, none⟩) 2 2) (fun _ h => by (try dsimp only at h); omega))).imp (fun W hW => EltE.of hW))
    rw [hsz] at hkids
    have hn := (((((((((((((unhide HBM)).set 0 (.int .i64 6) (by simp))).set 1 (.int .i64 0) (by simp))).set 2 (.string x) (by simp))).set 3 (.string ⟨#[]⟩) (by simp))).set 4 (.slice (some ⟨w6.heap.size, 0, none⟩) 2 2) (by simp))).old (.cells #[.int .i64 k1, .int .i64 m1, .string nm1, .string md1, .slice a1 l1 cc1, .int .i64 k2, .int .i64 m2, .string nm2, .string md2, .slice a2 l2 cc2] 31) (by simp [World.setCell]; exact hM6))
    have hK := ((((((((((((((unhide HR0).trans (unhide HK6))).set (unhide HBW) w.heap.size 0 (.int .i64 6) (by omega))).set (unhide HBW) w.heap.size 1 (.int .i64 0) (by omega))).set (unhide HBW) w.heap.size 2 (.string x) (by omega))).set (unhide HBW) w.heap.size 3 (.string ⟨#[]⟩) (by omega))).set (unhide HBW) w.heap.size 4 (.slice (some ⟨w6.heap.size, 0, none⟩) 2 2) (by omega))).alloc (unhide HBW) (.cells #[.int .i64 k1, .int .i64 m1, .string nm1, .string md1, .slice a1 l1 cc1, .int .i64 k2, .int .i64 m2, .string nm2, .string md2, .slice a2 l2 cc2] 31))
    obtain ⟨FW, hF⟩ : ∃ FW, FW = ((((((w6.setCell ⟨w.heap.size, 0, none⟩ (.int .i64 6)).setCell ⟨w.heap.size, 1, none⟩ (.int .i64 0)).setCell ⟨w.heap.size, 2, none⟩ (.string x)).setCell ⟨w.heap.size, 3, none⟩ (.string ⟨#[]⟩)).setCell ⟨w.heap.size, 4, none⟩ (.slice (some ⟨w6.heap.size, 0, none⟩) 2 2)).alloc (.cells #[.int .i64 k1, .int .i64 m1, .string nm1, .string md1, .slice a1 l1 cc1, .int .i64 k2, .int .i64 m2, .string nm2, .string md2, .slice a2 l2 cc2] 31)) := ⟨_, rfl⟩
    rw [← hF] at hkids hn hK ⊢
    have g0 := hn.cellAt (i := 0) rfl
    have g1 := hn.cellAt (i := 1) rfl
    have g2 := hn.cellAt (i := 2) rfl
    have g3 := hn.cellAt (i := 3) rfl
    have g4 := hn.cellAt (i := 4) rfl
    refine bodyPost_ret (v := .agg #[.int .i64 6, .int .i64 0, .string x, .string ⟨#[]⟩, .slice (some ⟨w6.heap.size, 0, none⟩) 2 2]) (by simp [results, Tryz.results53, go_sem, g0, g1, g2, g3, g4]) rfl ?_
    exact ⟨_, .node 6 0 x ⟨#[]⟩ [e1, e2], _, rfl, (keepE_node (n := 2) hkids rfl (by omega) (by have := unhide HXS; omega) (Nat.zero_le _)).less (fun b _ h => by have h9 : w2.heap.size ≤ b := h; omega), by have h1 := unhide HWE1; have h2 := unhide HWE2; have h3 := unhide HXS; simp only [TE.wt, wtL, emp_size, List.length_cons, List.length_nil]; omega, hK.more (by omega)⟩
  · have HX := hide (unhide HCL w2 (p + 1) (unhide HG2) (by omega) (unhide HV2))
    go_wp2_with fail
    refine (unhide HX).mono ?_
    rintro r w4 ⟨v, e, q4, rfl, hke, hwe, hk4⟩
    obtain ⟨k1, m1, nm1, md1, a1, l1, c1, rfl⟩ := IsE.five hke.now
    have HBM := hide ((unhide HBr).ofb (hk4.mv.2 w.heap.size hMr (by have := unhide HBW; omega)))
    have HK4 := hide ((unhide HR2).trans hk4)
    have HKE := hide hke
    have HWE := hide hwe
    have q0 := (unhide HBM).cellAt (i := 0) rfl
    have q1 := (unhide HBM).cellAt (i := 1) rfl
    have q2 := (unhide HBM).cellAt (i := 2) rfl
    have q3 := (unhide HBM).cellAt (i := 3) rfl
    have q4 := (unhide HBM).cellAt (i := 4) rfl
    have f0 := (unhide HBM).2 0
    have f1 := (unhide HBM).2 1
    have f2 := (unhide HBM).2 2
    have f3 := (unhide HBM).2 3
    have f4 := (unhide HBM).2 4
    clear hke hwe hk4
    go_wp2
    have hst := ((((((StayD.refl (fun b => w2.heap.size ≤ b) w4).set w.heap.size 0 (.int .i64 k1) (fun _ h => by (try dsimp only at h); omega)).set w.heap.size 1 (.int .i64 m1) (fun _ h => by (try dsimp only at h); omega)).set w.heap.size 2 (.string nm1) (fun _ h => by (try dsimp only at h); omega)).set w.heap.size 3 (.string md1) (fun _ h => by (try dsimp only at h); omega)).set w.heap.size 4 (.slice a1 l1 c1) (fun _ h => by (try dsimp only at h); omega))
    have hn := (((((((((((unhide HBM)).set 0 (.int .i64 k1) (by simp))).set 1 (.int .i64 m1) (by simp))).set 2 (.string nm1) (by simp))).set 3 (.string md1) (by simp))).set 4 (.slice a1 l1 c1) (by simp))
    have hK := ((((((((((((unhide HR0).trans (unhide HK4))).set (unhide HBW) w.heap.size 0 (.int .i64 k1) (by omega))).set (unhide HBW) w.heap.size 1 (.int .i64 m1) (by omega))).set (unhide HBW) w.heap.size 2 (.string nm1) (by omega))).set (unhide HBW) w.heap.size 3 (.string md1) (by omega))).set (unhide HBW) w.heap.size 4 (.slice a1 l1 c1) (by omega))
    obtain ⟨FW, hF⟩ : ∃ FW, FW = (((((w4.setCell ⟨w.heap.size, 0, none⟩ (.int .i64 k1)).setCell ⟨w.heap.size, 1, none⟩ (.int .i64 m1)).setCell ⟨w.heap.size, 2, none⟩ (.string nm1)).setCell ⟨w.heap.size, 3, none⟩ (.string md1)).setCell ⟨w.heap.size, 4, none⟩ (.slice a1 l1 c1)) := ⟨_, rfl⟩
    rw [← hF] at hst hn hK ⊢
    have g0 := hn.cellAt (i := 0) rfl
    have g1 := hn.cellAt (i := 1) rfl
    have g2 := hn.cellAt (i := 2) rfl
    have g3 := hn.cellAt (i := 3) rfl
    have g4 := hn.cellAt (i := 4) rfl
    refine bodyPost_ret (v := .agg #[.int .i64 k1, .int .i64 m1, .string nm1, .string md1, .slice a1 l1 c1]) (by simp [results, Tryz.results53, go_sem, g0, g1, g2, g3, g4]) rfl ?_
    exact ⟨_, e, _, rfl, (((unhide HKE).stay hst).less (fun b _ h => by have h9 : w2.heap.size ≤ b := h; omega)).imp (fun W hW => hW.ups (by omega)), Nat.le_trans (unhide HWE) (by have := unhide HPOS; omega), hK.more (by have := unhide HPOS; omega)⟩
  · have HX := hide (unhide HCL w2 (p + 1) (unhide HG2) (by omega) (unhide HV2))
    go_wp2_with fail
    refine (unhide HX).mono ?_
    rintro r w4 ⟨v, e, q4, rfl, hke, hwe, hk4⟩
    obtain ⟨k1, m1, nm1, md1, a1, l1, c1, rfl⟩ := IsE.five hke.now
    have HBM := hide ((unhide HBr).ofb (hk4.mv.2 w.heap.size hMr (by have := unhide HBW; omega)))
    have HK4 := hide ((unhide HR2).trans hk4)
    have HKE := hide hke
    have HWE := hide hwe
    have q0 := (unhide HBM).cellAt (i := 0) rfl
    have q1 := (unhide HBM).cellAt (i := 1) rfl
    have q2 := (unhide HBM).cellAt (i := 2) rfl
    have q3 := (unhide HBM).cellAt (i := 3) rfl
    have q4 := (unhide HBM).cellAt (i := 4) rfl
    have f0 := (unhide HBM).2 0
    have f1 := (unhide HBM).2 1
    have f2 := (unhide HBM).2 2
    have f3 := (unhide HBM).2 3
    have f4 := (unhide HBM).2 4
    clear hke hwe hk4
    go_wp2
    have hst := ((((((StayD.refl (fun b => w2.heap.size ≤ b) w4).set w.heap.size 0 (.int .i64 k1) (fun _ h => by (try dsimp only at h); omega)).set w.heap.size 1 (.int .i64 m1) (fun _ h => by (try dsimp only at h); omega)).set w.heap.size 2 (.string nm1) (fun _ h => by (try dsimp only at h); omega)).set w.heap.size 3 (.string md1) (fun _ h => by (try dsimp only at h); omega)).set w.heap.size 4 (.slice a1 l1 c1) (fun _ h => by (try dsimp only at h); omega))
    have hn := (((((((((((unhide HBM)).set 0 (.int .i64 k1) (by simp))).set 1 (.int .i64 m1) (by simp))).set 2 (.string nm1) (by simp))).set 3 (.string md1) (by simp))).set 4 (.slice a1 l1 c1) (by simp))
    have hK := ((((((((((((unhide HR0).trans (unhide HK4))).set (unhide HBW) w.heap.size 0 (.int .i64 k1) (by omega))).set (unhide HBW) w.heap.size 1 (.int .i64 m1) (by omega))).set (unhide HBW) w.heap.size 2 (.string nm1) (by omega))).set (unhide HBW) w.heap.size 3 (.string md1) (by omega))).set (unhide HBW) w.heap.size 4 (.slice a1 l1 c1) (by omega))
    obtain ⟨FW, hF⟩ : ∃ FW, FW = (((((w4.setCell ⟨w.heap.size, 0, none⟩ (.int .i64 k1)).setCell ⟨w.heap.size, 1, none⟩ (.int .i64 m1)).setCell ⟨w.heap.size, 2, none⟩ (.string nm1)).setCell ⟨w.heap.size, 3, none⟩ (.string md1)).setCell ⟨w.heap.size, 4, none⟩ (.slice a1 l1 c1)) := ⟨_, rfl⟩
    rw [← hF] at hst hn hK ⊢
    have g0 := hn.cellAt (i := 0) rfl
    have g1 := hn.cellAt (i := 1) rfl
    have g2 := hn.cellAt (i := 2) rfl
    have g3 := hn.cellAt (i := 3) rfl
    have g4 := hn.cellAt (i := 4) rfl
    refine bodyPost_ret (v := .agg #[.int .i64 k1, .int .i64 m1, .string nm1, .string md1, .slice a1 l1 c1]) (by simp [results, Tryz.results53, go_sem, g0, g1, g2, g3, g4]) rfl ?_
    exact ⟨_, e, _, rfl, (((unhide HKE).stay hst).less (fun b _ h => by have h9 : w2.heap.size ≤ b := h; omega)).imp (fun W hW => hW.ups (by omega)), Nat.le_trans (unhide HWE) (by have := unhide HPOS; omega), hK.more (by have := unhide HPOS; omega)⟩
  · have HX := hide (unhide HCL w2 (p + 1) (unhide HG2) (by omega) (unhide HV2))
    go_wp2_with fail
    refine (unhide HX).mono ?_
    rintro r w4 ⟨v, e, q4, rfl, hke, hwe, hk4⟩
    obtain ⟨k1, m1, nm1, md1, a1, l1, c1, rfl⟩ := IsE.five hke.now
    have HBM := hide ((unhide HBr).ofb (hk4.mv.2 w.heap.size hMr (by have := unhide HBW; omega)))
    have HK4 := hide ((unhide HR2).trans hk4)
    have HKE := hide hke
    have HWE := hide hwe
    have q0 := (unhide HBM).cellAt (i := 0) rfl
    have q1 := (unhide HBM).cellAt (i := 1) rfl
    have q2 := (unhide HBM).cellAt (i := 2) rfl
    have q3 := (unhide HBM).cellAt (i := 3) rfl
    have q4 := (unhide HBM).cellAt (i := 4) rfl
    have f0 := (unhide HBM).2 0
    have f1 := (unhide HBM).2 1
    have f2 := (unhide HBM).2 2
    have f3 := (unhide HBM).2 3
    have f4 := (unhide HBM).2 4
    clear hke hwe hk4
    go_wp2
    have hst := ((((((StayD.refl (fun b => w2.heap.size ≤ b) w4).set w.heap.size 0 (.int .i64 k1) (fun _ h => by (try dsimp only at h); omega)).set w.heap.size 1 (.int .i64 m1) (fun _ h => by (try dsimp only at h); omega)).set w.heap.size 2 (.string nm1) (fun _ h => by (try dsimp only at h); omega)).set w.heap.size 3 (.string md1) (fun _ h => by (try dsimp only at h); omega)).set w.heap.size 4 (.slice a1 l1 c1) (fun _ h => by (try dsimp only at h); omega))
    have hn := (((((((((((unhide HBM)).set 0 (.int .i64 k1) (by simp))).set 1 (.int .i64 m1) (by simp))).set 2 (.string nm1) (by simp))).set 3 (.string md1) (by simp))).set 4 (.slice a1 l1 c1) (by simp))
    have hK := ((((((((((((unhide HR0).trans (unhide HK4))).set (unhide HBW) w.heap.size 0 (.int .i64 k1) (by omega))).set (unhide HBW) w.heap.size 1 (.int .i64 m1) (by omega))).set (unhide HBW) w.heap.size 2 (.string nm1) (by omega))).set (unhide HBW) w.heap.size 3 (.string md1) (by omega))).set (unhide HBW) w.heap.size 4 (.slice a1 l1 c1) (by omega))
    obtain ⟨FW, hF⟩ : ∃ FW, FW = (((((w4.setCell ⟨w.heap.size, 0, none⟩ (.int .i64 k1)).setCell ⟨w.heap.size, 1, none⟩ (.int .i64 m1)).setCell ⟨w.heap.size, 2, none⟩ (.string nm1)).setCell ⟨w.heap.size, 3, none⟩ (.string md1)).setCell ⟨w.heap.size, 4, none⟩ (.slice a1 l1 c1)) := ⟨_, rfl⟩
    rw [← hF] at hst hn hK ⊢
    have g0 := hn.cellAt (i := 0) rfl
    have g1 := hn.cellAt (i := 1) rfl
    have g2 := hn.cellAt (i := 2) rfl
    have g3 := hn.cellAt (i := 3) rfl
    have g4 := hn.cellAt (i := 4) rfl
    refine bodyPost_ret (v := .agg #[.int .i64 k1, .int .i64 m1, .string nm1, .string md1, .slice a1 l1 c1]) (by simp [results, Tryz.results53, go_sem, g0, g1, g2, g3, g4]) rfl ?_
    exact ⟨_, e, _, rfl, (((unhide HKE).stay hst).less (fun b _ h => by have h9 : w2.heap.size ≤ b := h; omega)).imp (fun W hW => hW.ups (by omega)), Nat.le_trans (unhide HWE) (by have := unhide HPOS; omega), hK.more (by have := unhide HPOS; omega)⟩
  · have HX := hide (unhide HPR w2 (p + 1) (unhide HG2) (by omega) (unhide HV2))
    go_wp2_with fail
    refine (unhide HX).mono ?_
    rintro r w4 ⟨v, e, q4, rfl, hke, hwe, hk4⟩
    obtain ⟨k1, m1, nm1, md1, a1, l1, c1, rfl⟩ := IsE.five hke.now
    have HBM := hide ((unhide HBr).ofb (hk4.mv.2 w.heap.size hMr (by have := unhide HBW; omega)))
    have HK4 := hide ((unhide HR2).trans hk4)
    have HKE := hide hke
    have HWE := hide hwe
    have q0 := (unhide HBM).cellAt (i := 0) rfl
    have q1 := (unhide HBM).cellAt (i := 1) rfl
    have q2 := (unhide HBM).cellAt (i := 2) rfl
    have q3 := (unhide HBM).cellAt (i := 3) rfl
    have q4 := (unhide HBM).cellAt (i := 4) rfl
    have f0 := (unhide HBM).2 0
    have f1 := (unhide HBM).2 1
    have f2 := (unhide HBM).2 2
    have f3 := (unhide HBM).2 3
    have f4 := (unhide HBM).2 4
    clear hke hwe hk4
    go_wp2
    have hst := ((((((StayD.refl (fun b => w2.heap.size ≤ b) w4).set w.heap.size 0 (.int .i64 k1) (fun _ h => by (try dsimp only at h); omega)).set w.heap.size 1 (.int .i64 m1) (fun _ h => by (try dsimp only at h); omega)).set w.heap.size 2 (.string nm1) (fun _ h => by (try dsimp only at h); omega)).set w.heap.size 3 (.string md1) (fun _ h => by (try dsimp only at h); omega)).set w.heap.size 4 (.slice a1 l1 c1) (fun _ h => by (try dsimp only at h); omega))
    have hn := (((((((((((unhide HBM)).set 0 (.int .i64 k1) (by simp))).set 1 (.int .i64 m1) (by simp))).set 2 (.string nm1) (by simp))).set 3 (.string md1) (by simp))).set 4 (.slice a1 l1 c1) (by simp))
    have hK := ((((((((((((unhide HR0).trans (unhide HK4))).set (unhide HBW) w.heap.size 0 (.int .i64 k1) (by omega))).set (unhide HBW) w.heap.size 1 (.int .i64 m1) (by omega))).set (unhide HBW) w.heap.size 2 (.string nm1) (by omega))).set (unhide HBW) w.heap.size 3 (.string md1) (by omega))).set (unhide HBW) w.heap.size 4 (.slice a1 l1 c1) (by omega))
    obtain ⟨FW, hF⟩ : ∃ FW, FW = (((((w4.setCell ⟨w.heap.size, 0, none⟩ (.int .i64 k1)).setCell ⟨w.heap.size, 1, none⟩ (.int .i64 m1)).setCell ⟨w.heap.size, 2, none⟩ (.string nm1)).setCell ⟨w.heap.size, 3, none⟩ (.string md1)).setCell ⟨w.heap.size, 4, none⟩ (.slice a1 l1 c1)) := ⟨_, rfl⟩
    rw [← hF] at hst hn hK ⊢
    have g0 := hn.cellAt (i := 0) rfl
    have g1 := hn.cellAt (i := 1) rfl
    have g2 := hn.cellAt (i := 2) rfl
    have g3 := hn.cellAt (i := 3) rfl
    have g4 := hn.cellAt (i := 4) rfl
    refine bodyPost_ret (v := .agg #[.int .i64 k1, .int .i64 m1, .string nm1, .string md1, .slice a1 l1 c1]) (by simp [results, Tryz.results53, go_sem, g0, g1, g2, g3, g4]) rfl ?_
    exact ⟨_, e, _, rfl, (((unhide HKE).stay hst).less (fun b _ h => by have h9 : w2.heap.size ≤ b := h; omega)).imp (fun W hW => hW.ups (by omega)), Nat.le_trans (unhide HWE) (by have := unhide HPOS; omega), hK.more (by have := unhide HPOS; omega)⟩
  · have HX := hide (unhide HPR w2 (p + 1) (unhide HG2) (by omega) (unhide HV2))
    go_wp2_with fail
    refine (unhide HX).mono ?_
    rintro r w4 ⟨v, e, q4, rfl, hke, hwe, hk4⟩
    obtain ⟨k1, m1, nm1, md1, a1, l1, c1, rfl⟩ := IsE.five hke.now
    have HBM := hide ((unhide HBr).ofb (hk4.mv.2 w.heap.size hMr (by have := unhide HBW; omega)))
    have HK4 := hide ((unhide HR2).trans hk4)
    have HKE := hide hke
    have HWE := hide hwe
    have q0 := (unhide HBM).cellAt (i := 0) rfl
    have q1 := (unhide HBM).cellAt (i := 1) rfl
    have q2 := (unhide HBM).cellAt (i := 2) rfl
    have q3 := (unhide HBM).cellAt (i := 3) rfl
    have q4 := (unhide HBM).cellAt (i := 4) rfl
    have f0 := (unhide HBM).2 0
    have f1 := (unhide HBM).2 1
    have f2 := (unhide HBM).2 2
    have f3 := (unhide HBM).2 3
    have f4 := (unhide HBM).2 4
    clear hke hwe hk4
    go_wp2
    have hst := ((((((StayD.refl (fun b => w2.heap.size ≤ b) w4).set w.heap.size 0 (.int .i64 k1) (fun _ h => by (try dsimp only at h); omega)).set w.heap.size 1 (.int .i64 m1) (fun _ h => by (try dsimp only at h); omega)).set w.heap.size 2 (.string nm1) (fun _ h => by (try dsimp only at h); omega)).set w.heap.size 3 (.string md1) (fun _ h => by (try dsimp only at h); omega)).set w.heap.size 4 (.slice a1 l1 c1) (fun _ h => by (try dsimp only at h); omega))
    have hn := (((((((((((unhide HBM)).set 0 (.int .i64 k1) (by simp))).set 1 (.int .i64 m1) (by simp))).set 2 (.string nm1) (by simp))).set 3 (.string md1) (by simp))).set 4 (.slice a1 l1 c1) (by simp))
    have hK := ((((((((((((unhide HR0).trans (unhide HK4))).set (unhide HBW) w.heap.size 0 (.int .i64 k1) (by omega))).set (unhide HBW) w.heap.size 1 (.int .i64 m1) (by omega))).set (unhide HBW) w.heap.size 2 (.string nm1) (by omega))).set (unhide HBW) w.heap.size 3 (.string md1) (by omega))).set (unhide HBW) w.heap.size 4 (.slice a1 l1 c1) (by omega))
    obtain ⟨FW, hF⟩ : ∃ FW, FW = (((((w4.setCell ⟨w.heap.size, 0, none⟩ (.int .i64 k1)).setCell ⟨w.heap.size, 1, none⟩ (.int .i64 m1)).setCell ⟨w.heap.size, 2, none⟩ (.string nm1)).setCell ⟨w.heap.size, 3, none⟩ (.string md1)).setCell ⟨w.heap.size, 4, none⟩ (.slice a1 l1 c1)) := ⟨_, rfl⟩
    rw [← hF] at hst hn hK ⊢
    have g0 := hn.cellAt (i := 0) rfl
    have g1 := hn.cellAt (i := 1) rfl
    have g2 := hn.cellAt (i := 2) rfl
    have g3 := hn.cellAt (i := 3) rfl
    have g4 := hn.cellAt (i := 4) rfl
    refine bodyPost_ret (v := .agg #[.int .i64 k1, .int .i64 m1, .string nm1, .string md1, .slice a1 l1 c1]) (by simp [results, Tryz.results53, go_sem, g0, g1, g2, g3, g4]) rfl ?_
    exact ⟨_, e, _, rfl, (((unhide HKE).stay hst).less (fun b _ h => by have h9 : w2.heap.size ≤ b := h; omega)).imp (fun W hW => hW.ups (by omega)), Nat.le_trans (unhide HWE) (by have := unhide HPOS; omega), hK.more (by have := unhide HPOS; omega)⟩

theorem expr_any : ∀ d, ExprD d
  | 0 => expr_zero
  | d + 1 => expr_succ d (expr_any d)
end Go.Proofs.YtffabnmgcicpiaaGreat
