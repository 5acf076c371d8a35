/- The walk of the law on what is hidden of a module: it returns true and turns nothing that was there. Conditions: the slice that was handed in can be read. -/
import Derived.Test.YtffabnmgcicpiaaGreatFhc
namespace Go.Proofs.YtffabnmgcicpiaaGreat
open Go.RowKit Go.PlainAid

theorem flat_nine (ps : List (TF × List Value)) (x : TF) (C : List Value) : (ps ++ [(x, C)]).length = ps.length + 1 := by simp
set_option maxRecDepth 100000 in
set_option maxHeartbeats 16000000 in
theorem fnFaceHidden_walk (a : Option Addr) (len cap : Nat) (zs : List Int) (w : World) (h : IsRow .u8 w a len cap zs) :
    Calls Tryz.prog 3 #[.slice a len cap] w fun e w' => e = .returned (.bool true) ∧ Below w.heap.size w w' := by
  obtain ⟨hl, hm, hs⟩ := h.src
  by_cases hbig : 1048576 < len
  · clear h hs hl hm
    go_enter Tryz.func3, Tryz.ntmps3
    go_wp2
    go_ret
    exact ⟨rfl, Below.refl _ _⟩
  have HDR := hide (DrawFaceOf_any a len cap w hl hm hs)
  clear h hs hl hm
  go_enter Tryz.func3, Tryz.ntmps3
  go_wp2_with fail
  refine (unhide HDR).mono ?_
  rintro r w1 ⟨v, m, rfl, hkm, hwm, hb1⟩
  obtain ⟨us, fs, mn⟩ := m
  obtain ⟨s1, s2, s3, k1, k2, k3, hv, ⟨z1, z2, z3, z4, z5⟩, -, -, -⟩ := hkm.now
  subst hv
  dsimp only at z1 z2 z3 z4 z5 ⊢
  have hkb : KpD (fun b => b < w1.heap.size) w1 (fun W => IsMod W 0 W.heap.size 9 (.agg #[.slice s1 us.length k1, .slice s2 fs.length k2, .slice s3 mn.length k3]) ⟨us, fs, mn⟩) := hkm.less (fun b hb _ => hb)
  have hparts : ∀ W, StayD (fun b => b < w1.heap.size) w1 W → IsWds W 0 W.heap.size s1 us ∧ IsFuns (IsFun W 0 W.heap.size 9) W 0 W.heap.size s2 fs := fun W hW => by
    obtain ⟨b1, b2, b3, c1, c2, c3, hv, -, q1, q2, q3⟩ := hkb W hW
    simp only [Value.agg.injEq, Array.mk.injEq, List.cons.injEq, Value.slice.injEq, and_true, true_and] at hv
    obtain ⟨⟨rfl, rfl⟩, ⟨rfl, rfl⟩, rfl, rfl⟩ := hv
    exact ⟨q1, q2⟩
  have e5 := wt_eqM us fs mn
  have hfl : fs.length ≤ 90000 := by omega
  obtain ⟨W3, hW3⟩ : ∃ W3, W3 = (w1.alloc (.cells #[.slice s1 us.length k1, .slice s2 fs.length k2, .slice s3 mn.length k3] 27)).alloc (.cells #[.slice s1 us.length k1, .slice none 0 0, .slice none 0 0] 27) := ⟨_, rfl⟩
  have hz3 : W3.heap.size = w1.heap.size + 2 := by rw [hW3]; simp
  have hm3 : Blk W3 w1.heap.size [.slice s1 us.length k1, .slice s2 fs.length k2, .slice s3 mn.length k3] := by rw [hW3]; exact (Blk.new w1 _ 27).old _ (by simp)
  have hn3 : Blk W3 (w1.heap.size + 1) [.slice s1 us.length k1, .slice none 0 0, .slice none 0 0] := by
    have := Blk.new (w1.alloc (.cells #[.slice s1 us.length k1, .slice s2 fs.length k2, .slice s3 mn.length k3] 27)) [.slice s1 us.length k1, .slice none 0 0, .slice none 0 0] 27
    rw [alloc_size] at this
    rw [hW3]; exact this
  have hb3 : Below w1.heap.size w1 W3 := by rw [hW3]; exact (below_one w1 _).alloc (by simp) _
  have hwn : IntKind.i64.wrap ((fs.length : Int) - 1) = (fs.length : Int) - 1 := by rw [IntKind.wrap_i64]; omega
  have HKB := hide hkb
  have HPARTS := hide hparts
  have HWT := hide (And.intro hwm (And.intro z5 hfl))
  have HB1 := hide hb1
  have HM3 := hide hm3
  have HN3 := hide hn3
  have HB3 := hide hb3
  have HZ3 := hide hz3
  have x0 := hm3.cellAt (i := 0) rfl
  have x1 := hm3.cellAt (i := 1) rfl
  clear hkm hkb hparts hwm hb1 hm3 hn3 hb3 hz3 z1 z2 z3 z4 z5 e5 HDR
  go_upto_region 5 with fail
  rw [← hW3]
  clear hW3
  go_wp2
  clear x0 x1
  go_loopw [5] (fun i wr => ∃ (j : Nat) (fa : Option Addr) (fc : Nat) (ps : List (TF × List Value)), j ≤ fs.length ∧ i = .int .i64 ((j : Int) - 1) ∧ Hid (ps.map Prod.fst = ((fs.drop j).map hidF).reverse) ∧ Hid (ps.length + j = fs.length) ∧ Hid (OwnD (EltF 10) 9 33 (fun b => b < w1.heap.size ∨ w1.heap.size + 2 ≤ b) (w1.heap.size + 2) wr (.slice fa ps.length fc) ps) ∧ Hid (Blk wr w1.heap.size [.slice s1 us.length k1, .slice s2 fs.length k2, .slice s3 mn.length k3]) ∧ Hid (Blk wr (w1.heap.size + 1) [.slice s1 us.length k1, .slice fa ps.length fc, .slice none 0 0]) ∧ Hid (Below w1.heap.size w1 wr) ∧ Hid (w1.heap.size + 2 ≤ wr.heap.size)) (fun i _ => (intOf i + 1).toNat)
  case atStart => exact ⟨fs.length, none, 0, [], Nat.le_refl _, rfl, hide (by simp), hide (by simp), hide (OwnD.nil _ _ _ _ _ _), HM3, HN3, HB3, hide (by have := unhide HZ3; omega)⟩
  case round =>
    obtain ⟨j, fa, fc, ps, hj, rfl, HPF, HPL, HO, HMB, HNB, HBW, HZW⟩ := hrel
    cases j with
    | succ j =>
      have e1 : ((j + 1 : Nat) : Int) - 1 = (j : Int) := by omega
      rw [e1]
      clear e1
      have hjl : j < fs.length := by omega
      have hpl := unhide HPL
      have hfl2 := (unhide HWT).2.2
      obtain ⟨-, hfr⟩ := unhide HPARTS wr (StayD.below (unhide HBW))
      rcases hfr with hq | ⟨b, off, rfl, hbl, hbn, hcs⟩
      · rw [hq] at hjl; simp at hjl
      obtain ⟨c0, c1, c2, c3, c4, c5, c6, c7, c8, d0, d1, d2, d3, d4, d5, d6, d7, d8, hr⟩ := hcs j hjl
      obtain ⟨en, ep, ea, el, ec, et, ek, em, eo, ed, eb, ef, eg, rfl, rfl, rfl, rfl, rfl, rfl, rfl, rfl, rfl⟩ := IsFun.form 9 hr
      have hkf : KpD (fun b => b < w1.heap.size) w1 (fun W => IsFun W 0 W.heap.size 9 (.agg #[.string en, .bool ep, .slice ea el ec, .int .i64 et, .int .i64 ek, .int .i64 em, .string eo, .string ed, .slice eb ef eg]) (fs[j]'hjl)) := fun W hW => by
        obtain ⟨-, hfr⟩ := unhide HPARTS W hW
        obtain ⟨-, hfw⟩ := unhide HPARTS w1 (StayD.refl _ _)
        rcases hfr with hq | ⟨b2, off2, e2, _, _, hcs2⟩
        · rw [hq] at hjl; simp at hjl
        rcases hfw with hq | ⟨b3, off3, e3, _, hbn3, hcs3⟩
        · rw [hq] at hjl; simp at hjl
        simp only [Option.some.injEq, Addr.mk.injEq, and_true] at e2 e3
        obtain ⟨rfl, rfl⟩ := e2
        obtain ⟨rfl, rfl⟩ := e3
        obtain ⟨x0, x1, x2, x3, x4, x5, x6, x7, x8, y0, y1, y2, y3, y4, y5, y6, y7, y8, hr2⟩ := hcs2 j hjl
        have hc : ∀ o, W.cell? ⟨b, o, none⟩ = wr.cell? ⟨b, o, none⟩ := fun o => (World.cell?_of_block (w := w1) (a := ⟨b, o, none⟩) (hW.2 b hbn3 hbn3)).trans ((unhide HBW).cell (p := ⟨b, o, none⟩) hbn3).symm
        rw [hc, d0] at y0; cases y0
        rw [hc, d1] at y1; cases y1
        rw [hc, d2] at y2; cases y2
        rw [hc, d3] at y3; cases y3
        rw [hc, d4] at y4; cases y4
        rw [hc, d5] at y5; cases y5
        rw [hc, d6] at y6; cases y6
        rw [hc, d7] at y7; cases y7
        rw [hc, d8] at y8; cases y8
        exact hr2
      obtain ⟨g, c, wn, rn, on, bn, sn, zn⟩ := hid_more (unhide HO) (unhide HZW) (unhide HBW) (by omega) hkf
      have hzw := unhide HZW
      have x1 := (unhide HMB).cellAt (i := 1) rfl
      have n1 := (unhide HNB).cellAt (i := 1) rfl
      have hnn := (unhide HNB).ofb (sn (w1.heap.size + 1) (by omega))
      have hmm := (unhide HMB).ofb (sn w1.heap.size (by omega))
      have n1' := hnn.cellAt (i := 1) rfl
      have f1' := hnn.2 1
      have q1 : w1.heap.size < wr.heap.size := by omega
      have q2 : w1.heap.size ≠ wr.heap.size := by omega
      have q3 : w1.heap.size + 1 < wr.heap.size := by omega
      have q4 : w1.heap.size + 1 ≠ wr.heap.size := by omega
      have q5 : b ≠ wr.heap.size := by omega
      have hwr : IntKind.i64.wrap ((j : Int) - 1) = (j : Int) - 1 := by rw [IntKind.wrap_i64]; omega
      obtain ⟨Wn, hWn⟩ : ∃ Wn, Wn = wn.setCell ⟨w1.heap.size + 1, 1, none⟩ (.slice (some ⟨g, 0, none⟩) (ps.length + 1) c) := ⟨_, rfl⟩
      have hst : StayD (fun b => b < w1.heap.size ∨ w1.heap.size + 2 ≤ b) wn Wn := by rw [hWn]; exact (StayD.refl _ wn).set (w1.heap.size + 1) 1 _ (fun _ h => by omega)
      have hO2 := on.staySub hst (fun x hx => .inr (on.row.lt x hx).1)
      have hM2 : Blk Wn w1.heap.size [.slice s1 us.length k1, .slice (some ⟨b, off, none⟩) fs.length k2, .slice s3 mn.length k3] := by rw [hWn]; exact hmm.other (w1.heap.size + 1) 1 _ (by omega)
      have hN2 : Blk Wn (w1.heap.size + 1) [.slice s1 us.length k1, .slice (some ⟨g, 0, none⟩) (ps.length + 1) c, .slice none 0 0] := by rw [hWn]; exact hnn.set 1 _ (by simp)
      have hB2 : Below w1.heap.size w1 Wn := by rw [hWn]; exact bn.setCell (p := ⟨w1.heap.size + 1, 1, none⟩) (by show w1.heap.size ≤ w1.heap.size + 1; omega) _
      have hZ2 : w1.heap.size + 2 ≤ Wn.heap.size := by rw [hWn]; simp only [World.setCell]; have : wr.heap.size ≤ wn.heap.size := zn; simpa [World.setCell] using (by omega : w1.heap.size + 2 ≤ wn.heap.size)
      have hPF2 : (ps ++ [(hidF (fs[j]'hjl), [Value.string en, .bool ep, .slice ea el ec, .int .i64 et, .int .i64 1, .int .i64 7, .string ⟨#[]⟩, .string ⟨#[]⟩, .slice none 0 0])]).map Prod.fst = ((fs.drop j).map hidF).reverse := by rw [drop_hid fs j hjl, List.map_append, unhide HPF]; rfl
      have hPL2 : (ps ++ [(hidF (fs[j]'hjl), [Value.string en, .bool ep, .slice ea el ec, .int .i64 et, .int .i64 1, .int .i64 7, .string ⟨#[]⟩, .string ⟨#[]⟩, .slice none 0 0])]).length + j = fs.length := by rw [flat_nine]; omega
      rw [← flat_nine ps (hidF (fs[j]'hjl)) [Value.string en, .bool ep, .slice ea el ec, .int .i64 et, .int .i64 1, .int .i64 7, .string ⟨#[]⟩, .string ⟨#[]⟩, .slice none 0 0]] at hO2 hN2
      have HRO := hide hO2
      have HRM := hide hM2
      have HRN := hide hN2
      have HRB := hide hB2
      have HRZ := hide hZ2
      have HRP := hide hPF2
      have HRL := hide hPL2
      generalize (ps ++ [(hidF (fs[j]'hjl), [Value.string en, .bool ep, .slice ea el ec, .int .i64 et, .int .i64 1, .int .i64 7, .string ⟨#[]⟩, .string ⟨#[]⟩, .slice none 0 0])]) = ps' at HRO HRN HRP HRL
      clear hO2 hM2 hN2 hB2 hZ2 hPF2 hPL2 hst on bn sn zn hnn hmm hkf hr hcs hzw hpl hfl2
      go_wp2_with (at_builtin; refine wpList_runD rfl (.tmp 32) (.tmp 34) 24 rfl rfl (.slice fa ps.length fc) (.slice (some ⟨wr.heap.size + 1, 0, none⟩) 1 1) rfl rfl (.slice (some ⟨g, 0, none⟩) (ps.length + 1) c) wn rn ?_)
      rw [← hWn]
      go_roundw
      case rel => exact ⟨j, some ⟨g, 0, none⟩, c, ps', by omega, rfl, HRP, HRL, HRO, HRM, HRN, HRB, HRZ⟩
      case measure => simp [intOf] <;> omega
    | zero =>
      have e1 : ((0 : Nat) : Int) - 1 = -1 := by omega
      rw [e1]
      clear e1
      have hpf : ps.map Prod.fst = (hidM ⟨us, fs, mn⟩).funs := unhide HPF
      have hpl : ps.length = (hidM ⟨us, fs, mn⟩).funs.length := by rw [← hpf, List.length_map]
      have hwt := (unhide HWT).1
      have hmodm : ∀ W, Below wr.heap.size wr W → IsMod W 0 W.heap.size 9 (.agg #[.slice s1 us.length k1, .slice s2 fs.length k2, .slice s3 mn.length k3]) ⟨us, fs, mn⟩ := fun W hW => unhide HKB W ((StayD.below (unhide HBW)).trans ((StayD.below hW).less (fun b _ h => h)))
      have hfn : KpD (fun b => b < w1.heap.size ∨ w1.heap.size + 2 ≤ b) wr (fun W => IsFuns (IsFun W 0 W.heap.size 10) W 0 W.heap.size fa (ps.map Prod.fst)) := ((unhide HO).readsSub (fun x hx => .inr ((unhide HO).row.lt x hx).1)).imp (fun _ hW => ReadD.funs hW)
      have hmodn : ∀ W, Below wr.heap.size wr W → IsMod W 0 W.heap.size 10 (.agg #[.slice s1 us.length k1, .slice fa ps.length fc, .slice none 0 0]) (hidM ⟨us, fs, mn⟩) := fun W hW => by
        have h1 := hfn W (StayD.below hW)
        rw [hpf] at h1
        obtain ⟨_, _, _, _, _, _, _, ⟨z1, z2, z3, z4, z5⟩, _, _, _⟩ := hmodm W hW
        refine ⟨s1, fa, none, k1, fc, 0, by rw [hpl]; rfl, ⟨z1, ?_, Nat.zero_le _, z4, (unhide HWT).2.1⟩, (unhide HPARTS W ((StayD.below (unhide HBW)).trans ((StayD.below hW).less (fun b _ h => h)))).1, h1, .inl rfl⟩
        have := (unhide HWT).2.2
        rw [← hpl]
        have h2 := unhide HPL
        unfold maxLen
        omega
      have HIM := hide (fun W (hb : Below wr.heap.size wr W) => FaceOfI_any 0 9 _ _ W (hmodm W hb))
      have HIN := hide (fun W (hb : Below wr.heap.size wr W) => FaceOfI_any 0 10 _ _ W (hmodn W hb))
      have HSM := hide (fun W (hb : Below wr.heap.size wr W) => FaceOfS_any 0 9 _ _ W (hmodm W hb) (by omega))
      have HTK := hide (fun W (hb : Below wr.heap.size wr W) => TreeOkS_any 0 9 _ _ W (hmodm W hb) (by omega))
      have HSML := hide (faceL_small ⟨us, fs, mn⟩)
      have HZW2 := hide (show w1.heap.size + 1 < wr.heap.size by have := unhide HZW; omega)
      have x0 := (unhide HMB).cellAt (i := 0) rfl
      have x1 := (unhide HMB).cellAt (i := 1) rfl
      have x2 := (unhide HMB).cellAt (i := 2) rfl
      clear hpf hpl hwt hmodm hfn hmodn
      go_wp2_with fail
      refine (unhide HIM _ (Below.refl _ _)).mono ?_
      rintro r w5 ⟨v5, rfl, ho5, hb5⟩
      obtain ⟨a5, c5, rfl, hs5⟩ := ho5.sigs (Nat.le_refl _) (unhide HSML).2
      have HB5 := hide hb5
      have m5 := (unhide HMB).below hb5 (by have := unhide HZW2; omega)
      have n5 := (unhide HNB).below hb5 (unhide HZW2)
      have HS5 := hide hs5
      have HM5 := hide m5
      have HN5 := hide n5
      clear x0 x1 x2 ho5 hb5 hs5 HIM
      have x0 := m5.cellAt (i := 0) rfl
      have x1 := m5.cellAt (i := 1) rfl
      have x2 := m5.cellAt (i := 2) rfl
      clear m5 n5
      have HFN : Hid ((⟨us, fs, mn⟩ : TM).okB = true → faceL (hidM ⟨us, fs, mn⟩) = faceL ⟨us, fs, mn⟩) := hide face_hid
      have HFE : Hid ((⟨us, fs, mn⟩ : TM).okB = false → faceL ⟨us, fs, mn⟩ = []) := hide (fun h => by unfold faceL; rw [h]; rfl)
      obtain ⟨l, hl⟩ : ∃ l, faceL ⟨us, fs, mn⟩ = l := ⟨_, rfl⟩
      rw [hl] at HFN HFE HSML HS5 HSM ⊢
      go_wp2_with fail
      refine (unhide HTK _ (unhide HB5)).mono ?_
      rintro r w6 ⟨rfl, hb6⟩
      have m6 := (unhide HM5).below hb6 (by have := (unhide HB5).size; have := unhide HZW2; omega)
      have n6 := (unhide HN5).below hb6 (by have := (unhide HB5).size; have := unhide HZW2; omega)
      have HB6 := hide ((unhide HB5).trans (hb6.mono (unhide HB5).size))
      have HS6 := hide ((unhide HS5).kept hb6 hb6.size)
      have HM6 := hide m6
      have HN6 := hide n6
      clear x0 x1 x2 hb6 HS5 HM5 HN5 HTK
      have x0 := m6.cellAt (i := 0) rfl
      have x1 := m6.cellAt (i := 1) rfl
      have x2 := m6.cellAt (i := 2) rfl
      clear m6 n6
      have HEND := hide (fun (W : World) (hb : Below wr.heap.size wr W) => (unhide HB1).trans (((unhide HBW).trans (hb.mono (by have := unhide HZW2; omega))).mono (unhide HB1).size))
      cases hok : (⟨us, fs, mn⟩ : TM).okB with
      | false =>
        have hl0 := unhide HFE hok
        have hln : l.length = 0 := by rw [hl0]; rfl
        rw [hln]
        go_wp2
        go_ret
        exact ⟨rfl, unhide HEND _ (unhide HB6)⟩
      | true =>
        have hfn := unhide HFN hok
        clear hok
        go_wp2_with fail
        refine (unhide HSM _ (unhide HB6)).mono ?_
        rintro r w7 ⟨v7, rfl, ⟨a7, c7, rfl, hs7⟩, hb7⟩
        have n7 := (unhide HN6).below hb7 (by have := (unhide HB6).size; have := unhide HZW2; omega)
        have HB7 := hide ((unhide HB6).trans (hb7.mono (unhide HB6).size))
        have hs67 := (unhide HS6).kept hb7 hb7.size
        have HWF := hide (wfSame_any _ _ a5 a7 c5 c7 l w7 hs67 hs7 (by have := (unhide HSML).1; omega) (fun s hs => by have := ((unhide HSML).2 s hs).2; omega))
        have HS7 := hide hs67
        have HN7 := hide n7
        clear x0 x1 x2 hb7 hs7 hs67 n7 HS6 HM6 HN6 HSM
        go_wp2_with fail
        refine (unhide HWF).mono ?_
        rintro r w8 ⟨rfl, hb8⟩
        have n8 := (unhide HN7).below hb8 (by have := (unhide HB7).size; have := unhide HZW2; omega)
        have HB8 := hide ((unhide HB7).trans (hb8.mono (unhide HB7).size))
        have HS8 := hide ((unhide HS7).kept hb8 hb8.size)
        clear hb8 HS7 HN7 HWF
        have x0 := n8.cellAt (i := 0) rfl
        have x1 := n8.cellAt (i := 1) rfl
        have x2 := n8.cellAt (i := 2) rfl
        clear n8
        go_wp2_with fail
        refine (unhide HIN _ (unhide HB8)).mono ?_
        rintro r w9 ⟨v9, rfl, ho9, hb9⟩
        rw [hfn] at ho9
        obtain ⟨a9, c9, rfl, hs9⟩ := ho9.sigs (Nat.le_refl _) (unhide HSML).2
        have HB9 := hide ((unhide HB8).trans (hb9.mono (unhide HB8).size))
        have HWF := hide (wfSame_any _ _ a9 a5 c9 c5 l w9 hs9 ((unhide HS8).kept hb9 hb9.size) (by have := (unhide HSML).1; omega) (fun s hs => by have := ((unhide HSML).2 s hs).2; omega))
        clear x0 x1 x2 hb9 hs9 ho9 HS8
        go_wp2_with fail
        refine (unhide HWF).mono ?_
        rintro r w10 ⟨rfl, hb10⟩
        have HB10 := hide ((unhide HB9).trans (hb10.mono (unhide HB9).size))
        clear hb10
        go_wp2
        go_ret
        exact ⟨rfl, unhide HEND _ (unhide HB10)⟩
end Go.Proofs.YtffabnmgcicpiaaGreat
