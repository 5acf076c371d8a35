/- The walk of impl.TypeFind at a name of another module. Conditions: the module and the faces can be read, and weigh at most 2^20. -/
import Derived.Test.YtkiaidjkhhljhaaNf
namespace Go.Proofs.Ytkiaidjkhhljhaa
open Go.RowKit Go.PlainAid

set_option maxRecDepth 100000 in
set_option maxHeartbeats 8000000 in
theorem TypeFindI_other (lo h lo2 : Nat) (v : Value) (m : TM) (a : Option Addr) (cap : Nat) (ys : List TY) (md nm : ByteArray) (w : World) (hM : IsMod w lo w.heap.size h v m)
    (hY : IsFaces (IsFace w lo2 w.heap.size) w lo2 w.heap.size a ys) (hyl : ys.length ≤ maxLen) (hys : ∀ y ∈ ys, ∀ s ∈ y.sigs, s.args.length ≤ 1048576 ∧ s.name.size ≤ 1048576) (hmd : (md.toList == []) = false) :
    Calls Try.prog 15 #[v, .slice a ys.length cap, .string md, .string nm] w fun r w' => FPost w (findSig m ys md nm) r w' := by
  have HX : Hid (findSig m ys md nm = if hasB m.uses md = true then (ys.find? (isMod md)).bind (fun y => y.sigs.find? (isS nm)) else none) := hide (by unfold findSig; rw [hmd]; rfl)
  generalize findSig m ys md nm = R at HX ⊢
  obtain ⟨us, fs, mn⟩ := m
  obtain ⟨a1, a2, a3, k1, k2, k3, rfl, ⟨hz1, _, _, _, _⟩, q1, _, _⟩ := hM
  dsimp only at hz1 q1 HX
  have n0 : Blk ((w.alloc (.cells [Value.slice a1 us.length k1, Value.slice a2 fs.length k2, Value.slice a3 mn.length k3].toArray 43)).alloc (.cells [Value.string ⟨#[]⟩, Value.slice none 0 0, Value.int .i64 0].toArray 37)) w.heap.size [Value.slice a1 us.length k1, Value.slice a2 fs.length k2, Value.slice a3 mn.length k3] := (Blk.new w [Value.slice a1 us.length k1, Value.slice a2 fs.length k2, Value.slice a3 mn.length k3] 43).old _ (by simp)
  have n1 : Blk ((w.alloc (.cells [Value.slice a1 us.length k1, Value.slice a2 fs.length k2, Value.slice a3 mn.length k3].toArray 43)).alloc (.cells [Value.string ⟨#[]⟩, Value.slice none 0 0, Value.int .i64 0].toArray 37)) (w.heap.size + 1) [Value.string ⟨#[]⟩, Value.slice none 0 0, Value.int .i64 0] := by
    have := Blk.new (w.alloc (.cells [Value.slice a1 us.length k1, Value.slice a2 fs.length k2, Value.slice a3 mn.length k3].toArray 43)) [Value.string ⟨#[]⟩, Value.slice none 0 0, Value.int .i64 0] 37
    rw [alloc_size] at this
    exact this
  have hW : Below w.heap.size w ((w.alloc (.cells [Value.slice a1 us.length k1, Value.slice a2 fs.length k2, Value.slice a3 mn.length k3].toArray 43)).alloc (.cells [Value.string ⟨#[]⟩, Value.slice none 0 0, Value.int .i64 0].toArray 37)) := ((Below.refl _ w).alloc (Nat.le_refl _) _).alloc (by simp) _
  have HUS := hide (fun (W : World) (hb : Below w.heap.size w W) => contains_any lo a1 k1 us md W (q1.kept hb hb.size) hz1)
  have HPL := hide (fun (W : World) (hb : Below w.heap.size w W) => facePlace_any lo2 a cap ys md W (hY.kept hb hb.size) hyl)
  have HYS := hide (fun (W : World) (hb : Below w.heap.size w W) => hY.kept hb hb.size)
  have HSS := hide hys
  have HYL := hide hyl
  unfold maxLen at hyl
  clear q1 hY hz1 hys
  obtain ⟨W, hWW⟩ : ∃ W, W = ((w.alloc (.cells [Value.slice a1 us.length k1, Value.slice a2 fs.length k2, Value.slice a3 mn.length k3].toArray 43)).alloc (.cells [Value.string ⟨#[]⟩, Value.slice none 0 0, Value.int .i64 0].toArray 37)) := ⟨_, rfl⟩
  have hWs : W.heap.size = w.heap.size + 1 + 1 := by rw [hWW]; simp
  have HWW := hide hWW
  rw [← hWW] at n0 n1 hW
  have N0 := hide n0
  have N1 := hide n1
  have HW := hide hW
  have HWS := hide hWs
  clear n0 n1 hW hWs hWW
  go_enter Try.func15, Try.ntmps15
  go_wp2_with fail
  rw [← unhide HWW]
  clear HWW
  refine (unhide HPL _ (unhide HW)).mono ?_
  rintro r w2 ⟨rfl, hb2⟩
  have hW2 := (unhide HW).trans (hb2.mono (unhide HW).size)
  have n0 := (unhide N0).below hb2 (by have := unhide HWS; omega)
  have p0 := n0.cellAt (i := 0) rfl
  have HB2 := hide hb2
  have HW2 := hide hW2
  clear hb2 hW2 n0 HPL
  rcases placeY_find (l := ys) (md := md) with ⟨k, hk, hpl, hfi⟩ | ⟨hpl, hfi⟩
  · rw [hpl]
    have HFI := hide hfi
    clear hpl hfi
    go_wp2_with fail
    refine (unhide HUS _ (unhide HW2)).mono ?_
    rintro r w3 ⟨rfl, hb3⟩
    have HB3 := hide ((unhide HB2).trans (hb3.mono (unhide HB2).size))
    have HW3 := hide ((unhide HW2).trans (hb3.mono (unhide HW2).size))
    clear hb3 HB2 HW2 p0
    cases hu : hasB us md with
    | false =>
      have HRR : Hid (R = none) := hide (by rw [unhide HX, hu]; rfl)
      clear HX hu HUS HFI
      have n1 := (unhide N1).below (unhide HB3) (by have := unhide HWS; omega)
      have q0 := n1.cellAt (i := 0) rfl
      have q1 := n1.cellAt (i := 1) rfl
      have q2 := n1.cellAt (i := 2) rfl
      have f0 := n1.2 0
      have f1 := n1.2 1
      have f2 := n1.2 2
      have N1R := hide n1
      have HBE := hide (unhide HW3)
      clear n1
      go_wp2
      obtain ⟨F, hF⟩ : ∃ F, F = (((w3.setCell ⟨w.heap.size + 1, 0, none⟩ (.string ⟨#[]⟩)).setCell ⟨w.heap.size + 1, 1, none⟩ (.slice none 0 0)).setCell ⟨w.heap.size + 1, 2, none⟩ (.int .i64 0)) := ⟨_, rfl⟩
      have hn := (((unhide N1R).set 0 (.string ⟨#[]⟩) (by simp)).set 1 (.slice none 0 0) (by simp)).set 2 (.int .i64 0) (by simp)
      have hFB := (((Below.refl w.heap.size w3).setCell (p := ⟨w.heap.size + 1, 0, none⟩) (by simp) (.string ⟨#[]⟩)).setCell (p := ⟨w.heap.size + 1, 1, none⟩) (by simp) (.slice none 0 0)).setCell (p := ⟨w.heap.size + 1, 2, none⟩) (by simp) (.int .i64 0)
      have hFO : ∀ b, w.heap.size + 2 ≤ b → F.heap[b]? = w3.heap[b]? := fun b hb => by rw [hF, Below.heap_setCell _ _ _ _ (by simp; omega), Below.heap_setCell _ _ _ _ (by simp; omega), Below.heap_setCell _ _ _ _ (by simp; omega)]
      have hFS : F.heap.size = w3.heap.size := by rw [hF]; simp [World.setCell]
      rw [← hF] at hn hFB ⊢
      have g0 := hn.cellAt (i := 0) rfl
      have g1 := hn.cellAt (i := 1) rfl
      have g2 := hn.cellAt (i := 2) rfl
      refine bodyPost_ret (v := .tuple #[.agg #[Value.string ⟨#[]⟩, Value.slice none 0 0, Value.int .i64 0], .bool false]) (by simp [results, Try.results15, go_sem, g0, g1, g2]) rfl ?_
      rw [unhide HRR]
      exact ⟨.slice none 0 0, rfl, ⟨none, 0, rfl, .inl rfl⟩, (unhide HBE).trans hFB⟩
    | true =>
      have HX2 : Hid (R = (ys[k]'hk).sigs.find? (isS nm)) := hide (by rw [unhide HX, hu, if_pos rfl, unhide HFI]; rfl)
      clear HX hu HUS HFI
      rcases unhide HYS _ (unhide HW3) with hq | ⟨b, off, rfl, hbl, hbn, hcs⟩
      · rw [hq] at hk; simp at hk
      obtain ⟨c0, c1, d0, d1, hr⟩ := hcs k hk
      have hsk := unhide HSS _ (List.getElem_mem hk)
      obtain ⟨y, hy⟩ : ∃ y, ys[k]'hk = y := ⟨_, rfl⟩
      rw [hy] at hr hsk HX2
      obtain ⟨ym, sigs⟩ := y
      obtain ⟨sa, sc, hv, ⟨_, hsl⟩, hS⟩ := hr
      simp only [Value.agg.injEq, Array.mk.injEq, List.cons.injEq, and_true] at hv
      obtain ⟨rfl, rfl⟩ := hv
      dsimp only at hsk HX2 hS hsl d0 d1
      have HSG := hide (fun (W' : World) (hb : Below w3.heap.size w3 W') => hS.kept hb hb.size)
      have HSK := hide hsk
      unfold maxLen at hsl
      clear hcs hy hS hsk HYS HSS
      go_wp2
      clear d0 d1
      go_loopw [14, 52] (fun _ i wr => ∃ j : Nat, j ≤ sigs.length ∧ i = .int .i64 j ∧ Hid (∀ q (hq : q < sigs.length), q < j → isS nm sigs[q] = false) ∧ Hid (Below w3.heap.size w3 wr)) (fun _ i _ => sigs.length - (intOf i).toNat)
      case atStart => exact ⟨0, Nat.zero_le _, rfl, hide (fun j _ hj => absurd hj (Nat.not_lt_zero _)), hide (Below.refl _ _)⟩
      case round =>
        obtain ⟨j, hj, rfl, HN, HB⟩ := hrel
        have HWR := hide ((unhide HW3).trans ((unhide HB).mono (unhide HW3).size))
        have HBR := hide ((unhide HB3).trans ((unhide HB).mono (unhide HB3).size))
        have HSZ : Hid (w.heap.size + 1 + 1 ≤ wr.heap.size) := hide (by have := unhide HWS; have := (unhide HBR).size; omega)
        by_cases hp : j < sigs.length
        · rcases unhide HSG _ (unhide HB) with hq | ⟨b', off', rfl, hbl', hbn', hcs'⟩
          · rw [hq] at hp; simp at hp
          obtain ⟨c0, c1, c2, d0, d1, d2, hr⟩ := hcs' j hp
          have hjk := unhide HSK _ (List.getElem_mem hp)
          have HNX := hide (fun (he : isS nm (sigs[j]'hp) = false) => no_next hp (unhide HN) he)
          have HFX := hide (fun (he : isS nm (sigs[j]'hp) = true) => find_at hp (unhide HN) he)
          obtain ⟨x, hx⟩ : ∃ x, sigs[j]'hp = x := ⟨_, rfl⟩
          rw [hx] at hr hjk HNX HFX
          obtain ⟨xn, xargs, xt⟩ := x
          have HIS : Hid (isS nm ⟨xn, xargs, xt⟩ = (xn.toList == nm.toList)) := hide rfl
          obtain ⟨xa, xc, hv, _, hI⟩ := hr
          simp only [Value.agg.injEq, Array.mk.injEq, List.cons.injEq, and_true] at hv
          obtain ⟨rfl, rfl, rfl⟩ := hv
          dsimp only at hjk hI d0 d1 d2
          obtain ⟨hjk1, hjk2⟩ := hjk
          have HI := hide (fun (W' : World) (hb : Below wr.heap.size wr W') => hI.kept hb hb.size)
          clear hcs' hx hI
          cases he : (xn.toList == nm.toList) with
          | true =>
            have HRR : Hid (R = some ⟨xn, xargs, xt⟩) := hide (by rw [unhide HX2, unhide HFX ((unhide HIS).trans he)])
            have n1 := (unhide N1).below (unhide HBR) (by have := unhide HWS; omega)
            have NR := hide n1
            clear HX2 HFX HNX HN n1
            have b0 := Blk.new wr [.string xn, .slice xa xargs.length xc, .int .i64 xt] 37
            have B0 := hide b0
            clear b0
            go_wp2_with (at_builtin; refine wpList_app_ints _ rfl _ _ rfl rfl none rfl (.inl rfl) xa xc xargs rfl _ _ (unhide HI _ (below_newY _ _)) hjk1 ?_; intro v2 w4 ho2 hb4; obtain ⟨o2, p2, rfl, hk2⟩ := ho2; have HB4 := hide hb4; have HK2 := hide hk2; clear hb4 hk2 d0 d1 d2)
            have m4 := (unhide B0).below (unhide HB4) (by simp)
            have n4 := ((unhide NR).old _ (by have := unhide HSZ; omega)).below (unhide HB4) (by have := unhide HSZ; simp; omega)
            have e0 := m4.cellAt (i := 0) rfl
            have e2 := m4.cellAt (i := 2) rfl
            have q0 := n4.cellAt (i := 0) rfl
            have q1 := n4.cellAt (i := 1) rfl
            have q2 := n4.cellAt (i := 2) rfl
            have f0 := n4.2 0
            have f1 := n4.2 1
            have f2 := n4.2 2
            have hB4 := (unhide HWR).trans (((below_newY wr (.cells #[.string xn, .slice xa xargs.length xc, .int .i64 xt] 37)).trans ((unhide HB4).mono (by simp))).mono (unhide HWR).size)
            have HE2 : Hid (∀ W' : World, Below w4.heap.size w4 W' → W'.cell? ⟨wr.heap.size, 2, none⟩ = some (.int .i64 xt) ∧ Blk W' (w.heap.size + 1) [Value.string ⟨#[]⟩, Value.slice none 0 0, Value.int .i64 0]) := hide (fun W' hb => ⟨(m4.below hb (by have := (unhide HB4).size; simp at this; omega)).cellAt (i := 2) rfl, n4.below hb (by have h1 := (unhide HB4).size; rw [alloc_size] at h1; have := unhide HSZ; omega)⟩)
            have HBB4 := hide hB4
            have HS4 : Hid (wr.heap.size + 1 ≤ w4.heap.size) := hide (by have := (unhide HB4).size; rw [alloc_size] at this; exact this)
            have HK4 := hide (alloc_size wr (.cells #[.string xn, .slice xa xargs.length xc, .int .i64 xt] 37) ▸ unhide HK2)
            clear m4 n4 hB4
            go_region_with (go_at_call 37; refine (Clone_any xn _ (by omega)).mono ?_; rintro r w5 ⟨rfl, hb5⟩; have k5 : Below w4.heap.size w4 w5 := (Below.refl _ w4).drew.trans hb5; have z5 := (unhide HE2 _ k5).1; have n5 := (unhide HE2 _ k5).2; have q0' := n5.cellAt (i := 0) rfl; have q1' := n5.cellAt (i := 1) rfl; have q2' := n5.cellAt (i := 2) rfl; have f0' := n5.2 0; have f1' := n5.2 1; have f2' := n5.2 2)
            all_goals (
              have N1R := hide n5
              have HBE := hide ((unhide HBB4).trans (k5.mono (unhide HBB4).size))
              have K5 := hide k5
              clear n5 hb5 k5
              go_wp2
              obtain ⟨F, hF⟩ : ∃ F, F = (((w5.setCell ⟨w.heap.size + 1, 0, none⟩ (.string xn)).setCell ⟨w.heap.size + 1, 1, none⟩ (.slice o2 xargs.length p2)).setCell ⟨w.heap.size + 1, 2, none⟩ (.int .i64 xt)) := ⟨_, rfl⟩
              have hn := (((unhide N1R).set 0 (.string xn) (by simp)).set 1 (.slice o2 xargs.length p2) (by simp)).set 2 (.int .i64 xt) (by simp)
              have hFB := (((Below.refl w.heap.size w5).setCell (p := ⟨w.heap.size + 1, 0, none⟩) (by simp) (.string xn)).setCell (p := ⟨w.heap.size + 1, 1, none⟩) (by simp) (.slice o2 xargs.length p2)).setCell (p := ⟨w.heap.size + 1, 2, none⟩) (by simp) (.int .i64 xt)
              have hFO : ∀ b, w.heap.size + 2 ≤ b → F.heap[b]? = w5.heap[b]? := fun b hb => by rw [hF, Below.heap_setCell _ _ _ _ (by simp; omega), Below.heap_setCell _ _ _ _ (by simp; omega), Below.heap_setCell _ _ _ _ (by simp; omega)]
              have hFS : F.heap.size = w5.heap.size := by rw [hF]; simp [World.setCell]
              rw [← hF] at hn hFB ⊢
              have g0 := hn.cellAt (i := 0) rfl
              have g1 := hn.cellAt (i := 1) rfl
              have g2 := hn.cellAt (i := 2) rfl
              refine bodyPost_ret (v := .tuple #[.agg #[Value.string xn, Value.slice o2 xargs.length p2, Value.int .i64 xt], .bool true]) (by simp [results, Try.results15, go_sem, g0, g1, g2]) rfl ?_
              rw [unhide HRR]
              refine ⟨.slice o2 xargs.length p2, rfl, ⟨o2, p2, rfl, ?_⟩, (unhide HBE).trans hFB⟩
              rcases unhide HK4 with h | ⟨b, h1, h2, h3, h4, h5⟩
              · exact .inl h
              · have hblk := (hFO b (by have := unhide HSZ; omega)).trans ((unhide K5).block b h3)
                exact .inr ⟨b, h1, by have := unhide HSZ; omega, by have := (unhide K5).size; omega, fun j hj => (World.cell?_of_block (w := w4) (a := ⟨b, j, none⟩) hblk).trans (h4 j hj), fun j => (World.frozen?_of_block (w := w4) (a := ⟨b, j, none⟩) hblk).trans (h5 j)⟩)
          | false =>
            have HNN := hide (unhide HNX ((unhide HIS).trans he))
            clear HX2 HFX HNX HN
            go_wp2
            go_roundw
            case rel => exact ⟨j + 1, by omega, by go_num, HNN, hide ((unhide HB).alloc (unhide HB).size _)⟩
            case measure => simp [intOf]; omega
        · have HRR : Hid (R = none) := hide (by rw [unhide HX2, find_none (fun q hq => unhide HN q hq (by omega))])
          have n1 := (unhide N1).below (unhide HBR) (by have := unhide HWS; omega)
          have q0 := n1.cellAt (i := 0) rfl
          have q1 := n1.cellAt (i := 1) rfl
          have q2 := n1.cellAt (i := 2) rfl
          have f0 := n1.2 0
          have f1 := n1.2 1
          have f2 := n1.2 2
          have N1R := hide n1
          have HBE := hide (unhide HWR)
          clear n1
          go_wp2
          obtain ⟨F, hF⟩ : ∃ F, F = (((wr.setCell ⟨w.heap.size + 1, 0, none⟩ (.string ⟨#[]⟩)).setCell ⟨w.heap.size + 1, 1, none⟩ (.slice none 0 0)).setCell ⟨w.heap.size + 1, 2, none⟩ (.int .i64 0)) := ⟨_, rfl⟩
          have hn := (((unhide N1R).set 0 (.string ⟨#[]⟩) (by simp)).set 1 (.slice none 0 0) (by simp)).set 2 (.int .i64 0) (by simp)
          have hFB := (((Below.refl w.heap.size wr).setCell (p := ⟨w.heap.size + 1, 0, none⟩) (by simp) (.string ⟨#[]⟩)).setCell (p := ⟨w.heap.size + 1, 1, none⟩) (by simp) (.slice none 0 0)).setCell (p := ⟨w.heap.size + 1, 2, none⟩) (by simp) (.int .i64 0)
          have hFO : ∀ b, w.heap.size + 2 ≤ b → F.heap[b]? = wr.heap[b]? := fun b hb => by rw [hF, Below.heap_setCell _ _ _ _ (by simp; omega), Below.heap_setCell _ _ _ _ (by simp; omega), Below.heap_setCell _ _ _ _ (by simp; omega)]
          have hFS : F.heap.size = wr.heap.size := by rw [hF]; simp [World.setCell]
          rw [← hF] at hn hFB ⊢
          have g0 := hn.cellAt (i := 0) rfl
          have g1 := hn.cellAt (i := 1) rfl
          have g2 := hn.cellAt (i := 2) rfl
          refine bodyPost_ret (v := .tuple #[.agg #[Value.string ⟨#[]⟩, Value.slice none 0 0, Value.int .i64 0], .bool false]) (by simp [results, Try.results15, go_sem, g0, g1, g2]) rfl ?_
          rw [unhide HRR]
          exact ⟨.slice none 0 0, rfl, ⟨none, 0, rfl, .inl rfl⟩, (unhide HBE).trans hFB⟩
  · rw [hpl]
    have HRR : Hid (R = none) := hide (by rw [unhide HX, hfi]; simp)
    clear HX hpl hfi HUS
    have n1 := (unhide N1).below (unhide HB2) (by have := unhide HWS; omega)
    have q0 := n1.cellAt (i := 0) rfl
    have q1 := n1.cellAt (i := 1) rfl
    have q2 := n1.cellAt (i := 2) rfl
    have f0 := n1.2 0
    have f1 := n1.2 1
    have f2 := n1.2 2
    have N1R := hide n1
    have HBE := hide (unhide HW2)
    clear n1
    go_wp2
    obtain ⟨F, hF⟩ : ∃ F, F = (((w2.setCell ⟨w.heap.size + 1, 0, none⟩ (.string ⟨#[]⟩)).setCell ⟨w.heap.size + 1, 1, none⟩ (.slice none 0 0)).setCell ⟨w.heap.size + 1, 2, none⟩ (.int .i64 0)) := ⟨_, rfl⟩
    have hn := (((unhide N1R).set 0 (.string ⟨#[]⟩) (by simp)).set 1 (.slice none 0 0) (by simp)).set 2 (.int .i64 0) (by simp)
    have hFB := (((Below.refl w.heap.size w2).setCell (p := ⟨w.heap.size + 1, 0, none⟩) (by simp) (.string ⟨#[]⟩)).setCell (p := ⟨w.heap.size + 1, 1, none⟩) (by simp) (.slice none 0 0)).setCell (p := ⟨w.heap.size + 1, 2, none⟩) (by simp) (.int .i64 0)
    have hFO : ∀ b, w.heap.size + 2 ≤ b → F.heap[b]? = w2.heap[b]? := fun b hb => by rw [hF, Below.heap_setCell _ _ _ _ (by simp; omega), Below.heap_setCell _ _ _ _ (by simp; omega), Below.heap_setCell _ _ _ _ (by simp; omega)]
    have hFS : F.heap.size = w2.heap.size := by rw [hF]; simp [World.setCell]
    rw [← hF] at hn hFB ⊢
    have g0 := hn.cellAt (i := 0) rfl
    have g1 := hn.cellAt (i := 1) rfl
    have g2 := hn.cellAt (i := 2) rfl
    refine bodyPost_ret (v := .tuple #[.agg #[Value.string ⟨#[]⟩, Value.slice none 0 0, Value.int .i64 0], .bool false]) (by simp [results, Try.results15, go_sem, g0, g1, g2]) rfl ?_
    rw [unhide HRR]
    exact ⟨.slice none 0 0, rfl, ⟨none, 0, rfl, .inl rfl⟩, (unhide HBE).trans hFB⟩
end Go.Proofs.Ytkiaidjkhhljhaa
