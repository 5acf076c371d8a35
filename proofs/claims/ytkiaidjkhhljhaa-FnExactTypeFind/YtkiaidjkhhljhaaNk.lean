/- The walk of the law on TypeFind: it returns true and turns nothing that was there. Conditions: the module and the faces can be read. -/
import Derived.Test.YtkiaidjkhhljhaaNj
import Derived.Test.YtkiaidjkhhljhaaUb
namespace Go.Proofs.Ytkiaidjkhhljhaa
open Go.RowKit Go.PlainAid

theorem IsMod.form {w : World} {lo n h : Nat} {v : Value} {m : TM} (hM : IsMod w lo n h v m) : ∃ (a1 a2 a3 : Option Addr) (l1 l2 l3 k1 k2 k3 : Nat), v = .agg #[.slice a1 l1 k1, .slice a2 l2 k2, .slice a3 l3 k3] := by
  obtain ⟨a1, a2, a3, k1, k2, k3, hv, _⟩ := hM
  exact ⟨_, _, _, _, _, _, _, _, _, hv⟩
theorem hY_kept {w W0 W : World} {a : Option Addr} {ys : List TY} (h : IsFaces (IsFace w 0 w.heap.size) w 0 w.heap.size a ys) (hw : Below w.heap.size w W0) (hb : Below W0.heap.size W0 W) : IsFaces (IsFace W 0 W.heap.size) W 0 W.heap.size a ys :=
  h.kept (hw.trans (hb.mono hw.size)) (hw.trans (hb.mono hw.size)).size
theorem left_fits {l : Int} {n : Nat} (h : ¬ leftI l n < 0) : (n : Int) ≤ l ∧ leftI l n = l - n := by
  by_cases g : (n : Int) ≤ l
  · exact ⟨g, left_yes g⟩
  · rw [left_no (by omega)] at h; omega
theorem faces_mark {W W' : World} {lo n lo2 n2 : Nat} {a : Option Addr} {l : List TY} (h : IsFaces (IsFace W lo2 n2) W lo2 n2 a l) (hm : Mk lo n W W') (hn : n ≤ lo2) (hs : n2 ≤ W.heap.size) : IsFaces (IsFace W' lo2 n2) W' lo2 n2 a l :=
  have hsame : Same lo2 n2 W W' := fun b h1 h2 => hm.other (by omega) (.inr (by omega))
  h.mono (fun v e he => IsFace.same hsame (Nat.le_refl _) (Nat.le_refl _) v e he) hsame (Nat.le_refl _) (Nat.le_refl _)

set_option maxRecDepth 100000 in
set_option maxHeartbeats 16000000 in
theorem fnExactTypeFind_walk (h : Nat) (v : Value) (m : TM) (a : Option Addr) (cap : Nat) (ys : List TY) (md nm : ByteArray) (w : World) (hM : IsMod w 0 w.heap.size h v m) (hY : IsFaces (IsFace w 0 w.heap.size) w 0 w.heap.size a ys) (hyl : ys.length ≤ maxLen) (h2 : md.size ≤ maxLen) (h3 : nm.size ≤ maxLen) :
    Calls Try.prog 4 #[v, .slice a ys.length cap, .string md, .string nm] w fun e w' => e = .returned (.bool true) ∧ Below w.heap.size w w' := by
  obtain ⟨a1, a2, a3, l1, l2, l3, k1, k2, k3, rfl⟩ := hM.form
  unfold maxLen at h2 h3
  have HMM := hide hM
  have HYY := hide hY
  have HYL := hide hyl
  unfold maxLen at hyl
  by_cases hd : 1048576 < md.size
  · go_enter Try.func4, Try.ntmps4
    go_wp2
    go_ret
    exact ⟨rfl, below_newY _ _⟩
  by_cases hd2 : 1048576 < nm.size
  · go_enter Try.func4, Try.ntmps4
    go_wp2
    go_ret
    exact ⟨rfl, below_newY _ _⟩
  have NB := hide (Blk.new w [.slice a1 l1 k1, .slice a2 l2 k2, .slice a3 l3 k3] 32)
  have HW := hide (below_newY w (.cells [.slice a1 l1 k1, .slice a2 l2 k2, .slice a3 l3 k3].toArray 32))
  have HSZ := hide (szTreeMod_any 0 h _ m (w.alloc (.cells [.slice a1 l1 k1, .slice a2 l2 k2, .slice a3 l3 k3].toArray 32)) 1048576 (IsMod.kept h (below_newY _ _) (by simp) _ _ hM) (by omega) (by omega))
  have HWN : Hid (w.heap.size < (w.alloc (.cells [.slice a1 l1 k1, .slice a2 l2 k2, .slice a3 l3 k3].toArray 32)).heap.size) := hide (by simp)
  clear hM hY
  go_enter Try.func4, Try.ntmps4
  go_wp2_with fail
  refine (unhide HSZ).mono ?_
  clear HSZ
  obtain ⟨W0, hW0⟩ : ∃ W0, W0 = (w.alloc (.cells [.slice a1 l1 k1, .slice a2 l2 k2, .slice a3 l3 k3].toArray 32)) := ⟨_, rfl⟩
  rw [← hW0] at NB HW HWN ⊢
  clear hW0
  rintro r w1 ⟨rfl, hb1⟩
  have HB1 := hide hb1
  clear hb1
  by_cases hlt : leftI 1048576 m.wt < 0
  · generalize leftI 1048576 m.wt = L at hlt
    go_wp2
    go_ret
    exact ⟨rfl, (unhide HW).trans ((unhide HB1).mono (unhide HW).size)⟩
  obtain ⟨hwm, hlm⟩ := left_fits hlt
  have HFS := hide (fun (W : World) (hb : Below W0.heap.size W0 W) => hY_kept (unhide HYY) (unhide HW) hb)
  have HSF := hide (fun (W : World) (hb : Below W0.heap.size W0 W) (l : Int) (g0 : 0 ≤ l) (g1 : l ≤ 1048576) => szTreeFaceS_of 0 (szTypeFace_any 0) a cap ys W l (unhide HFS W hb) (unhide HYL) g0 g1)
  obtain ⟨Lm, hLm⟩ : ∃ Lm, leftI 1048576 m.wt = Lm := ⟨_, rfl⟩
  rw [hLm] at hlt hlm ⊢
  clear hLm
  have hLm0 : 0 ≤ Lm := by omega
  have hLm1 : Lm ≤ 1048576 := by omega
  have HLM := hide hlm
  clear hlm
  go_wp2_with fail
  refine (unhide HSF _ (unhide HB1) Lm hLm0 hLm1).mono ?_
  rintro r w2 ⟨rfl, hb2⟩
  have HB2 := hide ((unhide HB1).trans (hb2.mono (unhide HB1).size))
  clear hb2 HB1 HSF
  by_cases hlt2 : leftI Lm (ys.length + wtFaces ys) < 0
  · generalize leftI Lm (ys.length + wtFaces ys) = L at hlt2
    go_wp2
    go_ret
    exact ⟨rfl, (unhide HW).trans ((unhide HB2).mono (unhide HW).size)⟩
  obtain ⟨hwy, -⟩ := left_fits hlt2
  generalize leftI Lm (ys.length + wtFaces ys) = Ly at hlt2
  have hwt : m.wt ≤ 1048576 := by omega
  have hyt : ys.length + wtFaces ys ≤ 1048576 := by omega
  have HTM := hide (fun (W : World) (hb : Below W0.heap.size W0 W) => toTreeMod_anyZ 0 h _ m W (IsMod.kept h ((unhide HW).trans (hb.mono (unhide HW).size)) ((unhide HW).trans (hb.mono (unhide HW).size)).size _ _ (unhide HMM)) hwt)
  have HTF := hide (fun (W : World) (hb : Below W0.heap.size W0 W) => toTreeFaceS_ofZ 0 (toTypeFace_anyZ 0) a cap ys W (unhide HFS W hb) hyt)
  have HFF := hide (funs_small hwt)
  have HGG := hide (sigs_small hyt)
  have HAS := hide (args_small (md := md) (nm := nm) (unhide HFF) (unhide HGG))
  have HMB : Hid (mM m ≤ 7340032) := hide (by have := mM_bound m; omega)
  have HYB : Hid (sm mY ys ≤ 7340032) := hide (by have := mY_bound ys; omega)
  have HSP := hide (fun (lo lo2 : Nat) (v : Value) (a : Option Addr) (cap : Nat) (W : World) (g1 : IsMod W lo W.heap.size h v m) (g2 : IsFaces (IsFace W lo2 W.heap.size) W lo2 W.heap.size a ys) => TypeFindS_any lo h lo2 v m a cap ys md nm W g1 (unhide HFF) g2 (unhide HYL) (unhide HGG))
  have HIM := hide (fun (lo lo2 : Nat) (v : Value) (a : Option Addr) (cap : Nat) (W : World) (g1 : IsMod W lo W.heap.size h v m) (g2 : IsFaces (IsFace W lo2 W.heap.size) W lo2 W.heap.size a ys) => TypeFindI_any lo h lo2 v m a cap ys md nm W g1 (unhide HFF) g2 (unhide HYL) (unhide HGG))
  clear hwt hyt hwm hwy HFF HGG HMM
  unfold FPost at HSP HIM
  obtain ⟨S, hS⟩ : ∃ S, (findSig m ys md nm).getD zS = S := ⟨_, rfl⟩
  obtain ⟨B, hB⟩ : ∃ B, (findSig m ys md nm).isSome = B := ⟨_, rfl⟩
  rw [hS] at HSP HIM HAS
  rw [hB] at HSP HIM
  clear hS hB
  obtain ⟨sn, zs, st⟩ := S
  dsimp only at HSP HIM HAS
  have hq : (B != B) = false := by simp
  have nb := (unhide NB).below (unhide HB2) (unhide HWN)
  have p0 := nb.cellAt (i := 0) rfl
  have p1 := nb.cellAt (i := 1) rfl
  have p2 := nb.cellAt (i := 2) rfl
  clear nb
  go_wp2_with fail
  refine (unhide HTM _ (unhide HB2)).mono ?_
  rintro r w3 ⟨v3, rfl, hM3, hb3⟩
  have HB3 := hide ((unhide HB2).trans (hb3.toBelow.mono (unhide HB2).size))
  have HM3 := hide hM3
  clear hb3 HB2 hM3 p0 p1 p2
  go_wp2_with fail
  refine (unhide HTF _ (unhide HB3)).mono ?_
  rintro r w4 ⟨a4, c4, rfl, hF4, hb4⟩
  have HB4 := hide ((unhide HB3).trans (hb4.toBelow.mono (unhide HB3).size))
  have HM4 := hide (IsMod.kept h hb4.toBelow hb4.size _ _ (unhide HM3))
  have HF4 := hide hF4
  clear hb4 HB3 hF4 HM3
  go_wp2_with fail
  refine (unhide HSP _ _ _ _ _ _ (unhide HM4) (unhide HF4)).mono ?_
  rintro r w5 ⟨v5, rfl, ho5, hb5⟩
  have HB5 := hide ((unhide HB4).trans (hb5.mono (unhide HB4).size))
  have HO5 := hide ho5
  have H45 := hide (Nat.le_trans (unhide HB4).size hb5.size)
  clear hb5 HB4 HM4 HF4 ho5
  obtain ⟨a5, c5, hv5, -⟩ := unhide HO5
  subst hv5
  -- the first answer's block, then the module's copy
  have HB5' := hide ((unhide HB5).alloc (unhide HB5).size (.cells #[.string sn, .slice a5 zs.length c5, .int .i64 st] 37))
  have NE := hide (Blk.new w5 [.string sn, .slice a5 zs.length c5, .int .i64 st] 37)
  have nb := (unhide NB).below (unhide HB5') (unhide HWN)
  have p0 := nb.cellAt (i := 0) rfl
  have p1 := nb.cellAt (i := 1) rfl
  have p2 := nb.cellAt (i := 2) rfl
  clear nb
  have pb := (unhide NB).below (unhide HB5) (unhide HWN)
  have r0 := pb.cellAt (i := 0) rfl
  have r1 := pb.cellAt (i := 1) rfl
  have r2 := pb.cellAt (i := 2) rfl
  have hwn5 : w.heap.size < w5.heap.size := Nat.lt_of_lt_of_le (unhide HWN) (unhide HB5).size
  clear pb
  go_wp2_with fail
  refine (unhide HTM _ (unhide HB5')).mono ?_
  rintro r w6 ⟨v6, rfl, hM6, hb6⟩
  obtain ⟨e1, e2, e3, f1, f2, f3, g1, g2, g3, rfl⟩ := hM6.form
  rw [alloc_size] at hM6
  have hs6 : w5.heap.size + 1 ≤ w6.heap.size := by have := hb6.size; rw [alloc_size] at this; exact this
  have HB6 := hide ((unhide HB5').trans (hb6.toBelow.mono (unhide HB5').size))
  have HFR6 : Hid (Fr w6 (w5.heap.size + 1) w6.heap.size) := hide (fun b j hb _ => hb6.fr b j (by rw [alloc_size]; exact hb))
  have NE6 := hide ((unhide NE).below hb6.toBelow (by simp))
  have HO6 := hide ((unhide HO5).at (w' := w6) (fun b _ hb => (hb6.toBelow.block b (by rw [alloc_size]; omega)).trans (Below.heap_alloc _ _ _ hb)))
  have HM6 := hide hM6
  have HB6' := hide ((unhide HB6).alloc (unhide HB6).size (.cells #[.slice e1 f1 g1, .slice e2 f2 g2, .slice e3 f3 g3] 43))
  have NX := hide (Blk.new w6 [.slice e1 f1 g1, .slice e2 f2 g2, .slice e3 f3 g3] 43)
  clear hb6 hM6 NE HO5 HB5 HB5' p0 p1 p2 r0 r1 r2
  go_wp2_with fail
  refine (unhide HTF _ (unhide HB6')).mono ?_
  rintro r w7 ⟨a7, c7, rfl, hF7, hb7⟩
  rw [alloc_size] at hF7
  have hs7 : w6.heap.size + 1 ≤ w7.heap.size := by have := hb7.size; rw [alloc_size] at this; exact this
  have k67 : ∀ b, b < w6.heap.size → w7.heap[b]? = w6.heap[b]? := fun b hb => (hb7.toBelow.block b (by rw [alloc_size]; omega)).trans (Below.heap_alloc _ _ _ hb)
  have HB7 := hide ((unhide HB6').trans (hb7.toBelow.mono (unhide HB6').size))
  have HFR7 : Hid (Fr w7 (w6.heap.size + 1) w7.heap.size) := hide (fun b j hb _ => hb7.fr b j (by rw [alloc_size]; exact hb))
  have HFX7 : Hid (Fr w7 (w5.heap.size + 1) w6.heap.size) := hide (fun b j hb hb2 => (World.frozen?_of_block (w := w6) (a := ⟨b, j, none⟩) (k67 b hb2)).trans (unhide HFR6 b j hb hb2))
  have NX7 := hide ((unhide NX).below hb7.toBelow (by simp))
  have NE7 := hide ((unhide NE6).at (k67 _ (by omega)))
  have HO7 := hide ((unhide HO6).at (w' := w7) (fun b _ hb => k67 b (by omega)))
  have HM7 := hide (IsMod.same h (fun b _ hb => k67 b hb) (Nat.le_refl _) (Nat.le_refl _) _ _ (unhide HM6))
  have HF7 := hide hF7
  clear hb7 hF7 k67 NX NE6 HO6 HM6 HFR6 HB6 HB6'
  have x0 := (unhide NX7).cellAt (i := 0) rfl
  have x1 := (unhide NX7).cellAt (i := 1) rfl
  have x2 := (unhide NX7).cellAt (i := 2) rfl
  go_wp2_with fail
  refine (unhide HIM _ _ _ _ _ _ (IsMod.same h (fun _ _ _ => rfl) (Nat.le_refl _) (by omega) _ _ (unhide HM7)) (unhide HF7)).mono ?_
  rintro r w8 ⟨v8, rfl, ho8, hb8⟩
  obtain ⟨a8, c8, hv8, -⟩ := id ho8
  subst hv8
  have hs8 : w7.heap.size ≤ w8.heap.size := hb8.size
  -- all that is kept from here on
  have hFS8 : FS W0 w5.heap.size w6.heap.size w8.heap.size w4.heap.size w5.heap.size w7.heap.size w8.heap.size [.string sn, .slice a5 zs.length c5, .int .i64 st] [.slice e1 f1 g1, .slice e2 f2 g2, .slice e3 f3 g3] [.string sn, .slice a8 zs.length c8, .int .i64 st] (.slice a5 zs.length c5) (.slice a8 zs.length c8) zs zs (w8.alloc (.cells #[.string sn, .slice a8 zs.length c8, .int .i64 st] 37)) := by
    have kk : ∀ b, b < w7.heap.size → (w8.alloc (.cells #[.string sn, .slice a8 zs.length c8, .int .i64 st] 37)).heap[b]? = w7.heap[b]? := fun b hb => (Below.heap_alloc _ _ _ (by omega)).trans (hb8.block b hb)
    refine ⟨((unhide HB7).trans (hb8.mono (unhide HB7).size)).alloc (Nat.le_trans (unhide HB7).size hb8.size) _, (unhide NE7).at (kk _ (by omega)), (unhide NX7).at (kk _ (by omega)), Blk.new w8 _ _, (unhide HO7).at (fun b _ hb => kk b (by omega)), ho8.at (fun b _ hb => Below.heap_alloc _ _ _ hb), ?_, ?_, ?_, ?_, ?_⟩
    all_goals (rw [alloc_size]; omega)
  have HM8 : Hid (IsMod (w8.alloc (.cells #[.string sn, .slice a8 zs.length c8, .int .i64 st] 37)) (w5.heap.size + 1) w6.heap.size h (.agg #[.slice e1 f1 g1, .slice e2 f2 g2, .slice e3 f3 g3]) m) := hide (IsMod.same h (fun b _ hb => (Below.heap_alloc _ _ _ (by omega)).trans (hb8.block b (by omega))) (Nat.le_refl _) (Nat.le_refl _) _ _ (unhide HM7))
  have hsame8 : Same (w6.heap.size + 1) w7.heap.size w7 (w8.alloc (.cells #[.string sn, .slice a8 zs.length c8, .int .i64 st] 37)) := fun b _ hb => (Below.heap_alloc _ _ _ (by omega)).trans (hb8.block b hb)
  have HF8 := hide ((unhide HF7).mono (fun v e he => IsFace.same hsame8 (Nat.le_refl _) (Nat.le_refl _) v e he) hsame8 (Nat.le_refl _) (Nat.le_refl _))
  have HFR8 : Hid (Fr (w8.alloc (.cells #[.string sn, .slice a8 zs.length c8, .int .i64 st] 37)) (w6.heap.size + 1) w7.heap.size) := hide (fun b j hb hb2 => (World.frozen?_of_block (w := w7) (a := ⟨b, j, none⟩) (hsame8 b hb hb2)).trans (unhide HFR7 b j hb hb2))
  have HFX8 : Hid (Fr (w8.alloc (.cells #[.string sn, .slice a8 zs.length c8, .int .i64 st] 37)) (w5.heap.size + 1) w6.heap.size) := hide (fun b j hb hb2 => (World.frozen?_of_block (w := w7) (a := ⟨b, j, none⟩) (show (w8.alloc (.cells #[.string sn, .slice a8 zs.length c8, .int .i64 st] 37)).heap[b]? = w7.heap[b]? from (Below.heap_alloc w8 _ b (by omega)).trans (hb8.block b (by omega)))).trans (unhide HFX7 b j hb hb2))
  have HFS8 := hide hFS8
  have HS45 : Hid (W0.heap.size ≤ w5.heap.size) := H45
  have e0 := hFS8.e.cellAt (i := 0) rfl
  have e1' := hFS8.e.cellAt (i := 1) rfl
  have e2' := hFS8.e.cellAt (i := 2) rfl
  have ey0 := (unhide NE7).cellAt (i := 0) rfl
  have hE5 : w5.heap.size < w8.heap.size := by omega
  have ne8 := (unhide NE7).below hb8 (by omega)
  have z0 := ne8.cellAt (i := 0) rfl
  have z1 := ne8.cellAt (i := 1) rfl
  have z2 := ne8.cellAt (i := 2) rfl
  clear hFS8 ho8 hb8 hsame8 HB7 NX7 NE7 HO7 HM7 HF7 HFR7 HFX7 x0 x1 x2 ey0 ne8
  have HEQ := hide (fun (W : World) (lo lo2 n n2 : Nat) (v v2 : Value) (g1 : OwnI W lo n v zs) (g2 : OwnI W lo2 n2 v2 zs) (g3 : n ≤ W.heap.size) (g4 : n2 ≤ W.heap.size) => eqFaceSig_any lo lo2 _ _ ⟨sn, zs, st⟩ W (g1.sig sn st g3 (unhide HAS).2 (unhide HAS).1) (g2.sig sn st g4 (unhide HAS).2 (unhide HAS).1))
  go_wp2_with fail
  refine (unhide HEQ _ _ _ _ _ _ _ (unhide HFS8).o8 (unhide HFS8).o5 (unhide HFS8).sz8 (unhide HFS8).sz5).mono ?_
  rintro r w9 ⟨rfl, hb9⟩
  obtain ⟨W8, hW8⟩ : ∃ W8, W8 = (w8.alloc (.cells #[.string sn, .slice a8 zs.length c8, .int .i64 st] 37)) := ⟨_, rfl⟩
  rw [← hW8] at HFS8 HM8 HF8 HFR8 HFX8 hb9
  have hs8' : W8.heap.size = w8.heap.size + 1 := by rw [hW8]; simp
  clear hW8 e0 e1' e2' z0 z1 z2 hE5
  have HFS9 := hide ((unhide HFS8).kept hb9)
  have hsM9 : Same (w5.heap.size + 1) w6.heap.size W8 w9 := fun b _ hb => hb9.block b (by omega)
  have hsF9 : Same (w6.heap.size + 1) w7.heap.size W8 w9 := fun b _ hb => hb9.block b (by omega)
  have HM9 := hide (IsMod.same h hsM9 (Nat.le_refl _) (Nat.le_refl _) _ _ (unhide HM8))
  have HF9 := hide ((unhide HF8).mono (fun v e he => IsFace.same hsF9 (Nat.le_refl _) (Nat.le_refl _) v e he) hsF9 (Nat.le_refl _) (Nat.le_refl _))
  have HFR9 : Hid (Fr w9 (w6.heap.size + 1) w7.heap.size) := hide (fun b j hb hb2 => (World.frozen?_of_block (w := W8) (a := ⟨b, j, none⟩) (hsF9 b hb hb2)).trans (unhide HFR8 b j hb hb2))
  have HFX9 : Hid (Fr w9 (w5.heap.size + 1) w6.heap.size) := hide (fun b j hb hb2 => (World.frozen?_of_block (w := W8) (a := ⟨b, j, none⟩) (hsM9 b hb hb2)).trans (unhide HFX8 b j hb hb2))
  have HS9 : Hid (w8.heap.size + 1 ≤ w9.heap.size) := hide (by have := hb9.size; omega)
  clear hb9 hsM9 hsF9 HFS8 HM8 HF8 HFR8 HFX8 hs8'
  have HS := hide (And.intro hs6 (And.intro hs7 hs8))
  clear hs6 hs7 hs8 hwn5
  -- the copy is as it was: a region that draws
  have nb9 := (unhide NB).below (unhide HFS9).base (unhide HWN)
  have p0 := nb9.cellAt (i := 0) rfl
  have p1 := nb9.cellAt (i := 1) rfl
  have p2 := nb9.cellAt (i := 2) rfl
  have x0 := (unhide HFS9).x.cellAt (i := 0) rfl
  have x1 := (unhide HFS9).x.cellAt (i := 1) rfl
  have x2 := (unhide HFS9).x.cellAt (i := 2) rfl
  have HX9 := hide (fun (W : World) (hb : Below w9.heap.size w9 W) => (unhide HFS9).x.below hb (unhide HFS9).szX)
  have HTM9 := hide (fun (W : World) (hb : Below w9.heap.size w9 W) => unhide HTM W ((unhide HFS9).base.trans (hb.mono (unhide HFS9).base.size)))
  have HEM9 := hide (fun (W W1 : World) (v : Value) (lo : Nat) (hb : Below w9.heap.size w9 W) (hM : IsMod W lo W.heap.size h v m) => eqTreeMod_any (w5.heap.size + 1) lo h h (.agg #[.slice e1 f1 g1, .slice e2 f2 g2, .slice e3 f3 g3]) v m W (IsMod.same h (fun b _ hb2 => hb.block b (by have := unhide HS; have := unhide HS9; omega)) (Nat.le_refl _) (by have := unhide HS; have := unhide HS9; have := hb.size; omega) _ _ (unhide HM9)) hM)
  clear nb9
  go_upto_region 18 with fail
  go_cut [72] from 68 to 71 (fun s wc => s = .bool false ∧ Hid (Below w9.heap.size w9 wc))
  case first =>
    go_region_with (first | (go_at_call 13; refine (unhide HTM9 _ (Below.refl _ _).drew).mono ?_; rintro r wA ⟨vA, rfl, hMA, hbA⟩; have kA : Below w9.heap.size w9 wA := (Below.refl _ w9).drew.trans hbA.toBelow; have nA := unhide HX9 _ kA; have y0 := nA.cellAt (i := 0) rfl; have y1 := nA.cellAt (i := 1) rfl; have y2 := nA.cellAt (i := 2) rfl) | (go_at_call 17; refine (unhide HEM9 _ w9 _ _ kA hMA).mono ?_; rintro r wB ⟨rfl, hbB⟩))
    all_goals (
      go_wp2_with fail
      go_meet
      exact ⟨rfl, hide (kA.trans (hbB.mono kA.size))⟩)
  case rest =>
  obtain ⟨rfl, HKC⟩ := hcut
  have HFSA := hide ((unhide HFS9).kept (unhide HKC))
  have hsz9 := (unhide HKC).size
  have HSA : Hid (w8.heap.size + 1 ≤ wc.heap.size) := hide (by have := unhide HS9; omega)
  have hsM : Same (w5.heap.size + 1) w6.heap.size w9 wc := fun b _ hb => (unhide HKC).block b (by have := unhide HS; have := unhide HS9; omega)
  have hsF : Same (w6.heap.size + 1) w7.heap.size w9 wc := fun b _ hb => (unhide HKC).block b (by have := unhide HS; have := unhide HS9; omega)
  have HMA := hide (IsMod.same h hsM (Nat.le_refl _) (Nat.le_refl _) _ _ (unhide HM9))
  have HFA := hide ((unhide HF9).mono (fun v e he => IsFace.same hsF (Nat.le_refl _) (Nat.le_refl _) v e he) hsF (Nat.le_refl _) (Nat.le_refl _))
  have HFRA : Hid (Fr wc (w6.heap.size + 1) w7.heap.size) := hide (fun b j hb hb2 => (World.frozen?_of_block (w := w9) (a := ⟨b, j, none⟩) (hsF b hb hb2)).trans (unhide HFR9 b j hb hb2))
  have HFXA : Hid (Fr wc (w5.heap.size + 1) w6.heap.size) := hide (fun b j hb hb2 => (World.frozen?_of_block (w := w9) (a := ⟨b, j, none⟩) (hsM b hb hb2)).trans (unhide HFX9 b j hb hb2))
  clear HFS9 HM9 HF9 HFR9 HFX9 HS9 HKC hsM hsF hsz9 HX9 HTM9 HEM9 p0 p1 p2 x0 x1 x2
  -- the faces are as they were
  go_wp2_with fail
  refine (unhide HTF _ (unhide HFSA).base).mono ?_
  rintro r wD ⟨aD, cD, rfl, hFD, hbD⟩
  have HFSD := hide ((unhide HFSA).kept hbD.toBelow)
  have HSD : Hid (w8.heap.size + 1 ≤ wD.heap.size) := hide (Nat.le_trans (unhide HSA) hbD.size)
  have hsM : Same (w5.heap.size + 1) w6.heap.size wc wD := fun b _ hb => hbD.block b (by have := unhide HS; have := unhide HSA; omega)
  have hsF : Same (w6.heap.size + 1) w7.heap.size wc wD := fun b _ hb => hbD.block b (by have := unhide HS; have := unhide HSA; omega)
  have HMD := hide (IsMod.same h hsM (Nat.le_refl _) (Nat.le_refl _) _ _ (unhide HMA))
  have HFD := hide ((unhide HFA).mono (fun v e he => IsFace.same hsF (Nat.le_refl _) (Nat.le_refl _) v e he) hsF (Nat.le_refl _) (Nat.le_refl _))
  have HFRD : Hid (Fr wD (w6.heap.size + 1) w7.heap.size) := hide (fun b j hb hb2 => (World.frozen?_of_block (w := wc) (a := ⟨b, j, none⟩) (hsF b hb hb2)).trans (unhide HFRA b j hb hb2))
  have HFXD : Hid (Fr wD (w5.heap.size + 1) w6.heap.size) := hide (fun b j hb hb2 => (World.frozen?_of_block (w := wc) (a := ⟨b, j, none⟩) (hsM b hb hb2)).trans (unhide HFXA b j hb hb2))
  have HGD := hide hFD
  clear hFD hbD hsM hsF HFSA HSA HMA HFA HFRA HFXA
  have hsFD : Same (w6.heap.size + 1) w7.heap.size wD wD := fun _ _ _ => rfl
  go_wp2_with fail
  refine (eqTreeFaceS_of _ _ (eqTypeFace_any _ _) a7 aD c7 cD ys wD (unhide HYL) ((unhide HFD).mono (fun v e he => IsFace.same hsFD (Nat.le_refl _) (by have := unhide HS; have := unhide HSD; omega) v e he) hsFD (Nat.le_refl _) (by have := unhide HS; have := unhide HSD; omega)) (unhide HGD)).mono ?_
  rintro r wE ⟨rfl, hbE⟩
  have HFSE := hide ((unhide HFSD).kept hbE)
  have HSE : Hid (w8.heap.size + 1 ≤ wE.heap.size) := hide (Nat.le_trans (unhide HSD) hbE.size)
  have hsM : Same (w5.heap.size + 1) w6.heap.size wD wE := fun b _ hb => hbE.block b (by have := unhide HS; have := unhide HSD; omega)
  have hsF : Same (w6.heap.size + 1) w7.heap.size wD wE := fun b _ hb => hbE.block b (by have := unhide HS; have := unhide HSD; omega)
  have HME := hide (IsMod.same h hsM (Nat.le_refl _) (Nat.le_refl _) _ _ (unhide HMD))
  have HFE := hide ((unhide HFD).mono (fun v e he => IsFace.same hsF (Nat.le_refl _) (Nat.le_refl _) v e he) hsF (Nat.le_refl _) (Nat.le_refl _))
  have HFRE : Hid (Fr wE (w6.heap.size + 1) w7.heap.size) := hide (fun b j hb hb2 => (World.frozen?_of_block (w := wD) (a := ⟨b, j, none⟩) (hsF b hb hb2)).trans (unhide HFRD b j hb hb2))
  have HFXE : Hid (Fr wE (w5.heap.size + 1) w6.heap.size) := hide (fun b j hb hb2 => (World.frozen?_of_block (w := wD) (a := ⟨b, j, none⟩) (hsM b hb hb2)).trans (unhide HFXD b j hb hb2))
  clear hbE hsM hsF HFSD HSD HMD HFD HFRD HFXD HGD hsFD
  -- the copies are marked
  have x0 := (unhide HFSE).x.cellAt (i := 0) rfl
  have x1 := (unhide HFSE).x.cellAt (i := 1) rfl
  have x2 := (unhide HFSE).x.cellAt (i := 2) rfl
  go_wp2_with fail
  refine (markMod_any (w5.heap.size + 1) w6.heap.size h _ m 1 wE (unhide HME) (unhide HFXE) (by have := unhide HS; have := unhide HSE; omega) (by have := unhide HS; omega) (by omega) (by have := unhide HMB; omega)).mono ?_
  rintro r wF ⟨kF, rfl, hF1, hF2, hmF⟩
  have HFSF := hide ((unhide HFSE).mark hmF (by have := unhide H45; omega) (by omega) (.inr (Nat.le_refl _)) (by have := unhide HS; omega) (by omega) (by have := unhide HS; omega))
  have HFF := hide (faces_mark (unhide HFE) hmF (by omega) (by have := unhide HS; have := unhide HSE; omega))
  have HFRF : Hid (Fr wF (w6.heap.size + 1) w7.heap.size) := hide (fun b j hb hb2 => (World.frozen?_of_block (w := wE) (a := ⟨b, j, none⟩) (hmF.other (by show b < _; have := unhide HS; have := unhide HSE; omega) (.inr (by show _ ≤ b; omega)))).trans (unhide HFRE b j hb hb2))
  have HSF : Hid (w8.heap.size + 1 ≤ wF.heap.size) := hide (Nat.le_trans (unhide HSE) hmF.size)
  have hkF : kF ≤ 7340033 := by have := unhide HMB; omega
  clear hmF HFSE HFE HFRE HFXE HSE HME x0 x1 x2 hF2
  go_wp2_with fail
  refine (markFaces_any (w6.heap.size + 1) w7.heap.size a7 c7 ys kF wF ((unhide HFF).mono (R' := ShY wF (w6.heap.size + 1) w7.heap.size) (fun v e he => ShY.of he) (fun _ _ _ => rfl) (Nat.le_refl _) (Nat.le_refl _)) (unhide HYL) (unhide HFRF) (by have := unhide HS; have := unhide HSF; omega) (by have := unhide HS; omega) (by omega) (by have := unhide HYB; omega)).mono ?_
  rintro r wG ⟨kG, rfl, hG1, hG2, hmG⟩
  have HFSG := hide ((unhide HFSF).mark hmG (by have := unhide HS; have := unhide H45; omega) (by have := unhide HS; omega) (.inl (by omega)) (by have := unhide HS; omega) (by have := unhide HS; omega) (Nat.le_refl _))
  have hkG : kG ≤ 100000000 := by have := unhide HYB; omega
  clear hmG HFSF HFF HFRF HSF hG1 hG2 hF1 hkF
  have e0 := (unhide HFSG).e.cellAt (i := 0) rfl
  have e1' := (unhide HFSG).e.cellAt (i := 1) rfl
  have e2' := (unhide HFSG).e.cellAt (i := 2) rfl
  have g0 := (unhide HFSG).g.cellAt (i := 0) rfl
  have g1' := (unhide HFSG).g.cellAt (i := 1) rfl
  have g2' := (unhide HFSG).g.cellAt (i := 2) rfl
  have hkn : ¬ ((kG : Nat) : Int) < 0 := by omega
  go_wp2_with fail
  refine (unhide HEQ _ _ _ _ _ _ _ (unhide HFSG).o8 (unhide HFSG).o5 (unhide HFSG).sz8 (unhide HFSG).sz5).mono ?_
  rintro r wH ⟨rfl, hbH⟩
  have HFSH := hide ((unhide HFSG).kept hbH)
  clear hbH HFSG e0 e1' e2' g0 g1' g2'
  -- the answer owns its memory
  have g0 := (unhide HFSH).g.cellAt (i := 0) rfl
  have g1' := (unhide HFSH).g.cellAt (i := 1) rfl
  have g2' := (unhide HFSH).g.cellAt (i := 2) rfl
  go_wp2_with fail
  refine (markFaceSig_any w7.heap.size w8.heap.size _ _ _ zs 1 wH (unhide HFSH).o8 (unhide HFSH).sz8 (by have := unhide HS; omega) (by have := (unhide HAS).1; omega) (by omega)).mono ?_
  rintro r wI ⟨rfl, hoI, hbI, hcI⟩
  have HFSI : Hid (FS W0 w5.heap.size w6.heap.size w8.heap.size w4.heap.size w5.heap.size w7.heap.size w8.heap.size [.string sn, .slice a5 zs.length c5, .int .i64 st] [.slice e1 f1 g1, .slice e2 f2 g2, .slice e3 f3 g3] [.string sn, .slice a8 zs.length c8, .int .i64 st] (.slice a5 zs.length c5) (.slice a8 zs.length c8) zs (marksI 1 zs.length) wI) := hide (by
    have hs := hbI.size
    have hH := unhide HFSH
    have h1 := unhide HS
    have h2 := unhide H45
    exact ⟨hH.base.trans (hbI.mono (by omega)), hH.e.at (hbI.block _ (by omega)), hH.x.at (hbI.block _ (by omega)), hH.g.at (hcI _ (Nat.le_refl _) hH.szG), hH.o5.at (fun b _ hb => hbI.block b (by omega)), hoI, Nat.lt_of_lt_of_le hH.szE hs, Nat.lt_of_lt_of_le hH.szX hs, Nat.lt_of_lt_of_le hH.szG hs, Nat.le_trans hH.sz5 hs, Nat.le_trans hH.sz8 hs⟩)
  have HLL : Hid (zs.length ≤ 1000000000000) := hide (by have := (unhide HAS).1; omega)
  have hll : zs.length ≤ 1000000000000 := unhide HLL
  have hq2 : (((1 + zs.length : Nat) : Int) != ((1 + zs.length : Nat) : Int)) = false := by simp
  clear hoI hbI hcI HFSH g0 g1' g2'
  have g0 := (unhide HFSI).g.cellAt (i := 0) rfl
  have g1' := (unhide HFSI).g.cellAt (i := 1) rfl
  have g2' := (unhide HFSI).g.cellAt (i := 2) rfl
  go_wp2_with fail
  refine (heldFaceSig_any w7.heap.size _ _ _ 1 zs.length wI w8.heap.size (unhide HFSI).sz8 (unhide HFSI).o8 (unhide HLL) (by omega)).mono ?_
  rintro r wJ ⟨rfl, hbJ⟩
  have HFSJ := hide ((unhide HFSI).kept hbJ)
  clear hbJ HFSI g0 g1' g2'
  -- once more
  have nbJ := (unhide NB).below (unhide HFSJ).base (unhide HWN)
  have p0 := nbJ.cellAt (i := 0) rfl
  have p1 := nbJ.cellAt (i := 1) rfl
  have p2 := nbJ.cellAt (i := 2) rfl
  clear nbJ
  go_wp2_with fail
  refine (unhide HTM _ (unhide HFSJ).base).mono ?_
  rintro r wK ⟨vK, rfl, hMK, hbK⟩
  have HFSK := hide ((unhide HFSJ).kept hbK.toBelow)
  have HMK := hide hMK
  clear hbK hMK HFSJ p0 p1 p2
  go_wp2_with fail
  refine (unhide HTF _ (unhide HFSK).base).mono ?_
  rintro r wL ⟨aL, cL, rfl, hFL, hbL⟩
  have HFSL := hide ((unhide HFSK).kept hbL.toBelow)
  have HML := hide (IsMod.kept h hbL.toBelow hbL.size _ _ (unhide HMK))
  have HFL := hide hFL
  clear hbL hFL HFSK HMK
  go_wp2_with fail
  refine (unhide HIM _ _ _ _ _ _ (unhide HML) (unhide HFL)).mono ?_
  rintro r wM ⟨vM, rfl, hoM, hbM⟩
  obtain ⟨aM, cM, hvM, -⟩ := id hoM
  subst hvM
  have hFSM := (unhide HFSL).kept hbM
  have HFSM := hide (hFSM.kept (below_newY wM (.cells #[.string sn, .slice aM zs.length cM, .int .i64 st] 37)))
  have HOM := hide (hoM.kept (below_newY wM (.cells #[.string sn, .slice aM zs.length cM, .int .i64 st] 37)) (Nat.le_refl _))
  have HSM : Hid (wM.heap.size ≤ (wM.alloc (.cells #[.string sn, .slice aM zs.length cM, .int .i64 st] 37)).heap.size) := hide (by simp)
  have eM0 := hFSM.e.cellAt (i := 0) rfl
  have eM1 := hFSM.e.cellAt (i := 1) rfl
  have eM2 := hFSM.e.cellAt (i := 2) rfl
  have hEM : w5.heap.size < wM.heap.size := hFSM.szE
  clear hFSM hoM hbM HFSL HML HFL
  go_wp2_with fail
  refine (unhide HEQ _ _ _ _ _ _ _ (unhide HOM) (unhide HFSM).o5 (unhide HSM) (unhide HFSM).sz5).mono ?_
  rintro r wN ⟨rfl, hbN⟩
  have HFSN := hide ((unhide HFSM).kept hbN)
  clear hbN HFSM HOM HSM eM0 eM1 eM2 hEM
  have g0 := (unhide HFSN).g.cellAt (i := 0) rfl
  have g1' := (unhide HFSN).g.cellAt (i := 1) rfl
  have g2' := (unhide HFSN).g.cellAt (i := 2) rfl
  go_wp2_with fail
  refine (heldFaceSig_any w7.heap.size _ _ _ 1 zs.length wN w8.heap.size (unhide HFSN).sz8 (unhide HFSN).o8 (unhide HLL) (by omega)).mono ?_
  rintro r wO ⟨rfl, hbO⟩
  have HFSO := hide ((unhide HFSN).kept hbO)
  clear hbO HFSN g0 g1' g2'
  go_wp2
  go_ret
  exact ⟨rfl, (unhide HW).trans ((unhide HFSO).base.mono (unhide HW).size)⟩
end Go.Proofs.Ytkiaidjkhhljhaa
