/- The walk of spec.TypeFind. Conditions: the module and the faces can be read, and weigh at most 2^20. -/
import Derived.Test.YtkiaidjkhhljhaaNf
import Derived.Test.YtkiaidjkhhljhaaNd
namespace Go.Proofs.Ytkiaidjkhhljhaa
open Go.RowKit Go.PlainAid

set_option maxRecDepth 100000 in
set_option maxHeartbeats 4000000 in
theorem TypeFindS_own (lo h : Nat) (v : Value) (m : TM) (a : Option Addr) (cap : Nat) (ys : List TY) (md nm : ByteArray) (w : World) (hM : IsMod w lo w.heap.size h v m) (hwt : ∀ f ∈ m.funs, f.args.length ≤ 1048576 ∧ f.name.size ≤ 1048576) (hmd : (md.toList == []) = true) :
    Calls Try.prog 12 #[v, .slice a ys.length cap, .string md, .string nm] w fun r w' => FPost w (findSig m ys md nm) r w' := by
  have HX : Hid (findSig m ys md nm = (m.funs.find? (isF nm)).map sigOf) := hide (by unfold findSig; rw [if_pos hmd])
  generalize findSig m ys md nm = R at HX ⊢
  obtain ⟨us, fs, mn⟩ := m
  obtain ⟨a1, a2, a3, k1, k2, k3, rfl, ⟨_, hz2, _, _, _⟩, _, q2, _⟩ := hM
  dsimp only at hz2 q2 hwt HX
  have n0 : Blk ((w.alloc (.cells [Value.slice a1 us.length k1, Value.slice a2 fs.length k2, Value.slice a3 mn.length k3].toArray 43)).alloc (.cells [Value.string ⟨#[]⟩, Value.slice none 0 0, Value.int .i64 0].toArray 37)) w.heap.size [Value.slice a1 us.length k1, Value.slice a2 fs.length k2, Value.slice a3 mn.length k3] := (Blk.new w [Value.slice a1 us.length k1, Value.slice a2 fs.length k2, Value.slice a3 mn.length k3] 43).old _ (by simp)
  have n1 : Blk ((w.alloc (.cells [Value.slice a1 us.length k1, Value.slice a2 fs.length k2, Value.slice a3 mn.length k3].toArray 43)).alloc (.cells [Value.string ⟨#[]⟩, Value.slice none 0 0, Value.int .i64 0].toArray 37)) (w.heap.size + 1) [Value.string ⟨#[]⟩, Value.slice none 0 0, Value.int .i64 0] := by
    have := Blk.new (w.alloc (.cells [Value.slice a1 us.length k1, Value.slice a2 fs.length k2, Value.slice a3 mn.length k3].toArray 43)) [Value.string ⟨#[]⟩, Value.slice none 0 0, Value.int .i64 0] 37
    rw [alloc_size] at this
    exact this
  have hW : Below w.heap.size w ((w.alloc (.cells [Value.slice a1 us.length k1, Value.slice a2 fs.length k2, Value.slice a3 mn.length k3].toArray 43)).alloc (.cells [Value.string ⟨#[]⟩, Value.slice none 0 0, Value.int .i64 0].toArray 37)) := ((Below.refl _ w).alloc (Nat.le_refl _) _).alloc (by simp) _
  have HFS := hide (fun (W : World) (hb : Below w.heap.size w W) => q2.kept hb hb.size)
  unfold maxLen at hz2
  clear q2
  go_enter Try.func12, Try.ntmps12
  go_wp2
  obtain ⟨W, hWW⟩ : ∃ W, W = ((w.alloc (.cells [Value.slice a1 us.length k1, Value.slice a2 fs.length k2, Value.slice a3 mn.length k3].toArray 43)).alloc (.cells [Value.string ⟨#[]⟩, Value.slice none 0 0, Value.int .i64 0].toArray 37)) := ⟨_, rfl⟩
  have hWs : W.heap.size = w.heap.size + 1 + 1 := by rw [hWW]; simp
  rw [← hWW] at n0 n1 hW ⊢
  clear hWW
  have p1 := n0.cellAt (i := 1) rfl
  have N1 := hide n1
  have HW := hide hW
  have HWS := hide hWs
  clear n0 n1 hW hWs
  go_loop [10] (fun i => ∃ k : Nat, k ≤ fs.length ∧ i = .int .i64 k ∧ Hid (∀ j (hj : j < fs.length), j < k → isF nm fs[j] = false)) (fun i => fs.length - (intOf i).toNat)
  case atStart => exact ⟨0, Nat.zero_le _, rfl, hide (fun j _ hj => absurd hj (Nat.not_lt_zero _))⟩
  case round =>
    obtain ⟨k, hk, rfl, HN⟩ := hrel
    by_cases hp : k < fs.length
    · rcases unhide HFS _ (unhide HW) with hq | ⟨b, off, rfl, hbl, hbn, hcs⟩
      · rw [hq] at hp; simp at hp
      obtain ⟨c0, c1, c2, c3, c4, c5, c6, c7, c8, d0, d1, d2, d3, d4, d5, d6, d7, d8, hr⟩ := hcs k hp
      have hwk := hwt _ (List.getElem_mem hp)
      have HNX := hide (fun (he : isF nm (fs[k]'hp) = false) => no_next hp (unhide HN) he)
      have HFX := hide (fun (he : isF nm (fs[k]'hp) = true) => find_at hp (unhide HN) he)
      obtain ⟨x, hx⟩ : ∃ x, fs[k]'hp = x := ⟨_, rfl⟩
      rw [hx] at hr hwk HNX HFX
      have HIS : Hid (isF nm x = (x.name.toList == nm.toList)) := hide rfl
      obtain ⟨xs, xp, xa, xl, xc, xt, xk, xm, xn, xd, ya, yl, yc, rfl, rfl, rfl, rfl, rfl, rfl, rfl, rfl, rfl⟩ := IsFun.form h hr
      have hxn : x.name = xs := by
        obtain ⟨_, _, _, _, _, _, _, hv, _⟩ := hr
        simp only [Value.agg.injEq, Array.mk.injEq, List.cons.injEq, Value.string.injEq] at hv
        exact hv.1.symm
      rw [hxn] at HIS
      have HFO := hide (l3Of_any lo h _ x W hr hwk.1)
      clear hcs hr hx hwk
      cases he : (xs.toList == nm.toList) with
      | true =>
        have HRR : Hid (R = some (sigOf x)) := hide (by rw [unhide HX, unhide HFX ((unhide HIS).trans he)]; rfl)
        clear HX HFX HNX HN
        go_wp2_with fail
        refine (unhide HFO).mono ?_
        rintro r w2 ⟨v2, rfl, ho2, hb2⟩
        obtain ⟨o2, p2, rfl, hk2⟩ := ho2
        have n2 := (unhide N1).below hb2 (by have := unhide HWS; omega)
        have hB2 := (unhide HW).trans (hb2.mono (unhide HW).size)
        have q0 := n2.cellAt (i := 0) rfl
        have q1 := n2.cellAt (i := 1) rfl
        have q2 := n2.cellAt (i := 2) rfl
        have f0 := n2.2 0
        have f1 := n2.2 1
        have f2 := n2.2 2
        have N1R := hide n2
        have HB2 := hide hB2
        have HK2 := hide hk2
        obtain ⟨sn, hsn⟩ : ∃ sn, (sigOf x).name = sn := ⟨_, rfl⟩
        obtain ⟨st, hst⟩ : ∃ st, (sigOf x).type = st := ⟨_, rfl⟩
        obtain ⟨sa, hsa⟩ : ∃ sa, (sigOf x).args = sa := ⟨_, rfl⟩
        rw [hsn, hst, hsa]
        rw [hsa] at HK2
        have HSS := hide (And.intro hsn (And.intro hst hsa))
        clear n2 hb2 hB2 hk2 hsn hst hsa HFO d0 d1 d2 d3 d4 d5 d6 d7 d8
        go_wp2
        obtain ⟨F, hF⟩ : ∃ F, F = (((w2.setCell ⟨w.heap.size + 1, 0, none⟩ (.string sn)).setCell ⟨w.heap.size + 1, 1, none⟩ (.slice o2 sa.length p2)).setCell ⟨w.heap.size + 1, 2, none⟩ (.int .i64 st)) := ⟨_, rfl⟩
        have hn := (((unhide N1R).set 0 (.string sn) (by simp)).set 1 (.slice o2 sa.length p2) (by simp)).set 2 (.int .i64 st) (by simp)
        have hFB := (((Below.refl w.heap.size w2).setCell (p := ⟨w.heap.size + 1, 0, none⟩) (by simp) (.string sn)).setCell (p := ⟨w.heap.size + 1, 1, none⟩) (by simp) (.slice o2 sa.length p2)).setCell (p := ⟨w.heap.size + 1, 2, none⟩) (by simp) (.int .i64 st)
        have hFO : ∀ b, w.heap.size + 2 ≤ b → F.heap[b]? = w2.heap[b]? := fun b hb => by rw [hF, Below.heap_setCell _ _ _ _ (by simp; omega), Below.heap_setCell _ _ _ _ (by simp; omega), Below.heap_setCell _ _ _ _ (by simp; omega)]
        have hFS : F.heap.size = w2.heap.size := by rw [hF]; simp [World.setCell]
        rw [← hF] at hn hFB ⊢
        have g0 := hn.cellAt (i := 0) rfl
        have g1 := hn.cellAt (i := 1) rfl
        have g2 := hn.cellAt (i := 2) rfl
        refine bodyPost_ret (v := .tuple #[.agg #[Value.string sn, Value.slice o2 sa.length p2, Value.int .i64 st], .bool true]) (by simp [results, Try.results12, go_sem, g0, g1, g2]) rfl ?_
        obtain ⟨e1, e2, e3⟩ := unhide HSS
        rw [unhide HRR]
        refine ⟨.slice o2 sa.length p2, by rw [← e1, ← e2]; rfl, ?_, (unhide HB2).trans hFB⟩
        show OwnI F w.heap.size F.heap.size _ (sigOf x).args
        rw [e3]
        refine ⟨o2, p2, rfl, ?_⟩
        rcases unhide HK2 with h | ⟨b, h1, h2, h3, h4, h5⟩
        · exact .inl h
        · have hblk := hFO b (by have := unhide HWS; omega)
          exact .inr ⟨b, h1, by have := unhide HWS; omega, by omega, fun j hj => (World.cell?_of_block (w := w2) (a := ⟨b, j, none⟩) hblk).trans (h4 j hj), fun j => (World.frozen?_of_block (w := w2) (a := ⟨b, j, none⟩) hblk).trans (h5 j)⟩
      | false =>
        have HNN := hide (unhide HNX ((unhide HIS).trans he))
        clear HX HFX HNX HN HFO
        go_wp2
        go_round
        case rel => exact ⟨k + 1, by omega, by go_num, HNN⟩
        case measure => simp [intOf]; omega
    · have HRR : Hid (R = none) := hide (by rw [unhide HX, find_none (fun j hj => unhide HN j hj (by omega))]; rfl)
      clear HX HN
      have n1 := unhide N1
      have q0 := n1.cellAt (i := 0) rfl
      have q1 := n1.cellAt (i := 1) rfl
      have q2 := n1.cellAt (i := 2) rfl
      have f0 := n1.2 0
      have f1 := n1.2 1
      have f2 := n1.2 2
      have N1R := hide n1
      have HBE := hide (unhide HW)
      clear n1
      go_wp2
      obtain ⟨F, hF⟩ : ∃ F, F = (((W.setCell ⟨w.heap.size + 1, 0, none⟩ (.string ⟨#[]⟩)).setCell ⟨w.heap.size + 1, 1, none⟩ (.slice none 0 0)).setCell ⟨w.heap.size + 1, 2, none⟩ (.int .i64 0)) := ⟨_, rfl⟩
      have hn := (((unhide N1R).set 0 (.string ⟨#[]⟩) (by simp)).set 1 (.slice none 0 0) (by simp)).set 2 (.int .i64 0) (by simp)
      have hFB := (((Below.refl w.heap.size W).setCell (p := ⟨w.heap.size + 1, 0, none⟩) (by simp) (.string ⟨#[]⟩)).setCell (p := ⟨w.heap.size + 1, 1, none⟩) (by simp) (.slice none 0 0)).setCell (p := ⟨w.heap.size + 1, 2, none⟩) (by simp) (.int .i64 0)
      have hFO : ∀ b, w.heap.size + 2 ≤ b → F.heap[b]? = W.heap[b]? := fun b hb => by rw [hF, Below.heap_setCell _ _ _ _ (by simp; omega), Below.heap_setCell _ _ _ _ (by simp; omega), Below.heap_setCell _ _ _ _ (by simp; omega)]
      have hFS : F.heap.size = W.heap.size := by rw [hF]; simp [World.setCell]
      rw [← hF] at hn hFB ⊢
      have g0 := hn.cellAt (i := 0) rfl
      have g1 := hn.cellAt (i := 1) rfl
      have g2 := hn.cellAt (i := 2) rfl
      refine bodyPost_ret (v := .tuple #[.agg #[Value.string ⟨#[]⟩, Value.slice none 0 0, Value.int .i64 0], .bool false]) (by simp [results, Try.results12, go_sem, g0, g1, g2]) rfl ?_
      rw [unhide HRR]
      exact ⟨.slice none 0 0, rfl, ⟨none, 0, rfl, .inl rfl⟩, (unhide HBE).trans hFB⟩

set_option maxRecDepth 100000 in
set_option maxHeartbeats 8000000 in
theorem TypeFindS_other (lo h lo2 : Nat) (v : Value) (m : TM) (a : Option Addr) (cap : Nat) (ys : List TY) (md nm : ByteArray) (w : World) (hM : IsMod w lo w.heap.size h v m)
    (hY : IsFaces (IsFace w lo2 w.heap.size) w lo2 w.heap.size a ys) (hyl : ys.length ≤ maxLen) (hys : ∀ y ∈ ys, ∀ s ∈ y.sigs, s.args.length ≤ 1048576 ∧ s.name.size ≤ 1048576) (hmd : (md.toList == []) = false) :
    Calls Try.prog 12 #[v, .slice a ys.length cap, .string md, .string nm] w fun r w' => FPost w (findSig m ys md nm) r w' := by
  have HX : Hid (findSig m ys md nm = if hasB m.uses md = true then (ys.find? (isMod md)).bind (fun y => y.sigs.find? (isS nm)) else none) := hide (by unfold findSig; rw [hmd]; rfl)
  generalize findSig m ys md nm = R at HX ⊢
  obtain ⟨us, fs, mn⟩ := m
  obtain ⟨a1, a2, a3, k1, k2, k3, rfl, ⟨hz1, _, _, _, _⟩, q1, _, _⟩ := hM
  dsimp only at hz1 q1 HX
  have n0 : Blk ((w.alloc (.cells [Value.slice a1 us.length k1, Value.slice a2 fs.length k2, Value.slice a3 mn.length k3].toArray 43)).alloc (.cells [Value.string ⟨#[]⟩, Value.slice none 0 0, Value.int .i64 0].toArray 37)) w.heap.size [Value.slice a1 us.length k1, Value.slice a2 fs.length k2, Value.slice a3 mn.length k3] := (Blk.new w [Value.slice a1 us.length k1, Value.slice a2 fs.length k2, Value.slice a3 mn.length k3] 43).old _ (by simp)
  have n1 : Blk ((w.alloc (.cells [Value.slice a1 us.length k1, Value.slice a2 fs.length k2, Value.slice a3 mn.length k3].toArray 43)).alloc (.cells [Value.string ⟨#[]⟩, Value.slice none 0 0, Value.int .i64 0].toArray 37)) (w.heap.size + 1) [Value.string ⟨#[]⟩, Value.slice none 0 0, Value.int .i64 0] := by
    have := Blk.new (w.alloc (.cells [Value.slice a1 us.length k1, Value.slice a2 fs.length k2, Value.slice a3 mn.length k3].toArray 43)) [Value.string ⟨#[]⟩, Value.slice none 0 0, Value.int .i64 0] 37
    rw [alloc_size] at this
    exact this
  have hW : Below w.heap.size w ((w.alloc (.cells [Value.slice a1 us.length k1, Value.slice a2 fs.length k2, Value.slice a3 mn.length k3].toArray 43)).alloc (.cells [Value.string ⟨#[]⟩, Value.slice none 0 0, Value.int .i64 0].toArray 37)) := ((Below.refl _ w).alloc (Nat.le_refl _) _).alloc (by simp) _
  have HUS := hide (fun (W : World) (hb : Below w.heap.size w W) => q1.kept hb hb.size)
  have HYS := hide (fun (W : World) (hb : Below w.heap.size w W) => hY.kept hb hb.size)
  have HSS := hide hys
  unfold maxLen at hyl hz1
  clear q1 hY hys
  go_enter Try.func12, Try.ntmps12
  go_wp2
  obtain ⟨W, hWW⟩ : ∃ W, W = ((w.alloc (.cells [Value.slice a1 us.length k1, Value.slice a2 fs.length k2, Value.slice a3 mn.length k3].toArray 43)).alloc (.cells [Value.string ⟨#[]⟩, Value.slice none 0 0, Value.int .i64 0].toArray 37)) := ⟨_, rfl⟩
  have hWs : W.heap.size = w.heap.size + 1 + 1 := by rw [hWW]; simp
  rw [← hWW] at n0 n1 hW ⊢
  clear hWW
  have p0 := n0.cellAt (i := 0) rfl
  have N1 := hide n1
  have HW := hide hW
  have HWS := hide hWs
  clear n0 n1 hW hWs
  go_loop [11, 12] (fun u i => ∃ k : Nat, k ≤ us.length ∧ i = .int .i64 k ∧ u = .bool (hasB (us.take k) md)) (fun _ i => us.length - (intOf i).toNat)
  case atStart => exact ⟨0, Nat.zero_le _, rfl, rfl⟩
  case round =>
    obtain ⟨k, hk, rfl, rfl⟩ := hrel
    by_cases hp : k < us.length
    · rcases unhide HUS _ (unhide HW) with hq | ⟨b, off, rfl, hbl, hbn, hc⟩
      · rw [hq] at hp; simp at hp
      have hck := hc k hp
      have HST := hide (has_take us md k hp)
      obtain ⟨y, hy⟩ : ∃ y, us[k]'hp = y := ⟨_, rfl⟩
      rw [hy] at hck HST
      clear hc hy
      cases hu : hasB (us.take k) md with
      | true =>
        have HE : Hid (true = hasB (us.take (k + 1)) md) := hide (by rw [unhide HST, hu]; rfl)
        go_wp2
        go_round
        case rel => exact ⟨k + 1, by omega, by go_num, by rw [← unhide HE]⟩
        case measure => simp [intOf]; omega
      | false =>
        cases he : (y.toList == md.toList) with
        | true =>
          have HE : Hid (hasB (us.take (k + 1)) md = true) := hide (by rw [unhide HST, hu, he]; rfl)
          go_wp2
          go_round
          case rel => exact ⟨k + 1, by omega, by go_num, by rw [unhide HE]⟩
          case measure => simp [intOf]; omega
        | false =>
          have HE : Hid (hasB (us.take (k + 1)) md = false) := hide (by rw [unhide HST, hu, he]; rfl)
          go_wp2
          go_round
          case rel => exact ⟨k + 1, by omega, by go_num, by rw [unhide HE]⟩
          case measure => simp [intOf]; omega
    · have hek : us.take k = us := List.take_of_length_le (by omega)
      rw [hek]
      clear hek
      cases hu : hasB us md with
      | false =>
        have HRR : Hid (R = none) := hide (by rw [unhide HX, hu]; rfl)
        clear HX hu
        go_wp2
        go_loop [13] (fun i => i = .int .i64 0) (fun _ => 0)
        case atStart => rfl
        case round =>
          obtain rfl := hrel
          by_cases hy0 : 0 < ys.length
          all_goals
            have n1 := unhide N1
            have q0 := n1.cellAt (i := 0) rfl
            have q1 := n1.cellAt (i := 1) rfl
            have q2 := n1.cellAt (i := 2) rfl
            have f0 := n1.2 0
            have f1 := n1.2 1
            have f2 := n1.2 2
            have N1R := hide n1
            have HBE := hide (unhide HW)
            clear n1
            go_wp2
            obtain ⟨F, hF⟩ : ∃ F, F = (((W.setCell ⟨w.heap.size + 1, 0, none⟩ (.string ⟨#[]⟩)).setCell ⟨w.heap.size + 1, 1, none⟩ (.slice none 0 0)).setCell ⟨w.heap.size + 1, 2, none⟩ (.int .i64 0)) := ⟨_, rfl⟩
            have hn := (((unhide N1R).set 0 (.string ⟨#[]⟩) (by simp)).set 1 (.slice none 0 0) (by simp)).set 2 (.int .i64 0) (by simp)
            have hFB := (((Below.refl w.heap.size W).setCell (p := ⟨w.heap.size + 1, 0, none⟩) (by simp) (.string ⟨#[]⟩)).setCell (p := ⟨w.heap.size + 1, 1, none⟩) (by simp) (.slice none 0 0)).setCell (p := ⟨w.heap.size + 1, 2, none⟩) (by simp) (.int .i64 0)
            have hFO : ∀ b, w.heap.size + 2 ≤ b → F.heap[b]? = W.heap[b]? := fun b hb => by rw [hF, Below.heap_setCell _ _ _ _ (by simp; omega), Below.heap_setCell _ _ _ _ (by simp; omega), Below.heap_setCell _ _ _ _ (by simp; omega)]
            have hFS : F.heap.size = W.heap.size := by rw [hF]; simp [World.setCell]
            rw [← hF] at hn hFB ⊢
            have g0 := hn.cellAt (i := 0) rfl
            have g1 := hn.cellAt (i := 1) rfl
            have g2 := hn.cellAt (i := 2) rfl
            refine bodyPost_ret (v := .tuple #[.agg #[Value.string ⟨#[]⟩, Value.slice none 0 0, Value.int .i64 0], .bool false]) (by simp [results, Try.results12, go_sem, g0, g1, g2]) rfl ?_
            rw [unhide HRR]
            exact ⟨.slice none 0 0, rfl, ⟨none, 0, rfl, .inl rfl⟩, (unhide HBE).trans hFB⟩
      | true =>
        have HX2 : Hid (R = (ys.find? (isMod md)).bind (fun y => y.sigs.find? (isS nm))) := hide (by rw [unhide HX, hu]; rfl)
        clear HX hu
        go_wp2
        go_loop [13, 14] (fun i _ => ∃ k : Nat, k ≤ ys.length ∧ i = .int .i64 k ∧ Hid (∀ j (hj : j < ys.length), j < k → isMod md ys[j] = false)) (fun i _ => ys.length - (intOf i).toNat)
        case atStart => exact ⟨0, Nat.zero_le _, rfl, hide (fun j _ hj => absurd hj (Nat.not_lt_zero _))⟩
        case round =>
          obtain ⟨k, hk, rfl, HN⟩ := hrel
          by_cases hp : k < ys.length
          · rcases unhide HYS _ (unhide HW) with hq | ⟨b, off, rfl, hbl, hbn, hcs⟩
            · rw [hq] at hp; simp at hp
            obtain ⟨c0, c1, d0, d1, hr⟩ := hcs k hp
            have hsk := unhide HSS _ (List.getElem_mem hp)
            have HNX := hide (fun (he : isMod md (ys[k]'hp) = false) => no_next hp (unhide HN) he)
            have HFX := hide (fun (he : isMod md (ys[k]'hp) = true) => find_at hp (unhide HN) he)
            obtain ⟨y, hy⟩ : ∃ y, ys[k]'hp = y := ⟨_, rfl⟩
            rw [hy] at hr hsk HNX HFX
            obtain ⟨ym, sigs⟩ := y
            have HIS : Hid (isMod md ⟨ym, sigs⟩ = (ym.toList == md.toList)) := hide rfl
            obtain ⟨sa, sc, hv, ⟨_, hsl⟩, hS⟩ := hr
            simp only [Value.agg.injEq, Array.mk.injEq, List.cons.injEq, and_true] at hv
            obtain ⟨rfl, rfl⟩ := hv
            dsimp only at hsk hS hsl d0 d1
            have HSG := hide hS
            have HSK := hide hsk
            unfold maxLen at hsl
            clear hcs hy hS hsk
            cases he : (ym.toList == md.toList) with
            | false =>
              have HNN := hide (unhide HNX ((unhide HIS).trans he))
              clear HX2 HFX HNX HN
              go_wp2
              go_round
              case rel => exact ⟨k + 1, by omega, by go_num, HNN⟩
              case measure => simp [intOf]; omega
            | true =>
              have HX3 : Hid (R = sigs.find? (isS nm)) := hide (by rw [unhide HX2, unhide HFX ((unhide HIS).trans he)]; rfl)
              clear HX2 HFX HNX HN
              go_wp2
              go_loop [14] (fun i => ∃ j : Nat, j ≤ sigs.length ∧ i = .int .i64 j ∧ Hid (∀ q (hq : q < sigs.length), q < j → isS nm sigs[q] = false)) (fun i => sigs.length - (intOf i).toNat)
              case atStart => exact ⟨0, Nat.zero_le _, rfl, hide (fun j _ hj => absurd hj (Nat.not_lt_zero _))⟩
              case round =>
                obtain ⟨j, hj, rfl, HN⟩ := hrel
                by_cases hpj : j < sigs.length
                · rcases unhide HSG with hq | ⟨b', off', rfl, hbl', hbn', hcs'⟩
                  · rw [hq] at hpj; simp at hpj
                  obtain ⟨c0, c1, c2, e0, e1, e2, hr⟩ := hcs' j hpj
                  have hjk := unhide HSK _ (List.getElem_mem hpj)
                  have HNX := hide (fun (he : isS nm (sigs[j]'hpj) = false) => no_next hpj (unhide HN) he)
                  have HFX := hide (fun (he : isS nm (sigs[j]'hpj) = true) => find_at hpj (unhide HN) he)
                  obtain ⟨x, hx⟩ : ∃ x, sigs[j]'hpj = x := ⟨_, rfl⟩
                  rw [hx] at hr hjk HNX HFX
                  have HL4 := hide (l4Sig_any lo2 _ x W hr hjk.1)
                  obtain ⟨xn, xargs, xt⟩ := x
                  have HIS : Hid (isS nm ⟨xn, xargs, xt⟩ = (xn.toList == nm.toList)) := hide rfl
                  obtain ⟨xa, xc, hv, _, hI⟩ := hr
                  simp only [Value.agg.injEq, Array.mk.injEq, List.cons.injEq, and_true] at hv
                  obtain ⟨rfl, rfl, rfl⟩ := hv
                  try dsimp only at e0 e1 e2
                  clear hcs' hx hI hjk
                  cases he2 : (xn.toList == nm.toList) with
                  | true =>
                    have HRR : Hid (R = some ⟨xn, xargs, xt⟩) := hide (by rw [unhide HX3, unhide HFX ((unhide HIS).trans he2)])
                    clear HX3 HFX HNX HN
                    go_wp2_with fail
                    refine (unhide HL4).mono ?_
                    rintro r w2 ⟨v2, rfl, ho2, hb2⟩
                    obtain ⟨o2, p2, rfl, hk2⟩ := ho2
                    dsimp only at hk2 ⊢
                    have n2 := (unhide N1).below hb2 (by have := unhide HWS; omega)
                    have hB2 := (unhide HW).trans (hb2.mono (unhide HW).size)
                    have q0 := n2.cellAt (i := 0) rfl
                    have q1 := n2.cellAt (i := 1) rfl
                    have q2 := n2.cellAt (i := 2) rfl
                    have f0 := n2.2 0
                    have f1 := n2.2 1
                    have f2 := n2.2 2
                    have N1R := hide n2
                    have HB2 := hide hB2
                    have HK2 := hide hk2
                    clear n2 hb2 hB2 hk2 HL4 d0 d1 e0 e1 e2
                    go_wp2
                    obtain ⟨F, hF⟩ : ∃ F, F = (((w2.setCell ⟨w.heap.size + 1, 0, none⟩ (.string xn)).setCell ⟨w.heap.size + 1, 1, none⟩ (.slice o2 xargs.length p2)).setCell ⟨w.heap.size + 1, 2, none⟩ (.int .i64 xt)) := ⟨_, rfl⟩
                    have hn := (((unhide N1R).set 0 (.string xn) (by simp)).set 1 (.slice o2 xargs.length p2) (by simp)).set 2 (.int .i64 xt) (by simp)
                    have hFB := (((Below.refl w.heap.size w2).setCell (p := ⟨w.heap.size + 1, 0, none⟩) (by simp) (.string xn)).setCell (p := ⟨w.heap.size + 1, 1, none⟩) (by simp) (.slice o2 xargs.length p2)).setCell (p := ⟨w.heap.size + 1, 2, none⟩) (by simp) (.int .i64 xt)
                    have hFO : ∀ b, w.heap.size + 2 ≤ b → F.heap[b]? = w2.heap[b]? := fun b hb => by rw [hF, Below.heap_setCell _ _ _ _ (by simp; omega), Below.heap_setCell _ _ _ _ (by simp; omega), Below.heap_setCell _ _ _ _ (by simp; omega)]
                    have hFS : F.heap.size = w2.heap.size := by rw [hF]; simp [World.setCell]
                    rw [← hF] at hn hFB ⊢
                    have g0 := hn.cellAt (i := 0) rfl
                    have g1 := hn.cellAt (i := 1) rfl
                    have g2 := hn.cellAt (i := 2) rfl
                    refine bodyPost_ret (v := .tuple #[.agg #[Value.string xn, Value.slice o2 xargs.length p2, Value.int .i64 xt], .bool true]) (by simp [results, Try.results12, go_sem, g0, g1, g2]) rfl ?_
                    rw [unhide HRR]
                    refine ⟨.slice o2 xargs.length p2, rfl, ⟨o2, p2, rfl, ?_⟩, (unhide HB2).trans hFB⟩
                    rcases unhide HK2 with h | ⟨b, h1, h2, h3, h4, h5⟩
                    · exact .inl h
                    · have hblk := hFO b (by have := unhide HWS; omega)
                      exact .inr ⟨b, h1, by have := unhide HWS; omega, by omega, fun j hj => (World.cell?_of_block (w := w2) (a := ⟨b, j, none⟩) hblk).trans (h4 j hj), fun j => (World.frozen?_of_block (w := w2) (a := ⟨b, j, none⟩) hblk).trans (h5 j)⟩
                  | false =>
                    have HNN := hide (unhide HNX ((unhide HIS).trans he2))
                    clear HX3 HFX HNX HN HL4
                    go_wp2
                    go_round
                    case rel => exact ⟨j + 1, by omega, by go_num, HNN⟩
                    case measure => simp [intOf]; omega
                · have HRR : Hid (R = none) := hide (by rw [unhide HX3, find_none (fun q hq => unhide HN q hq (by omega))])
                  clear HX3 HN
                  have n1 := unhide N1
                  have q0 := n1.cellAt (i := 0) rfl
                  have q1 := n1.cellAt (i := 1) rfl
                  have q2 := n1.cellAt (i := 2) rfl
                  have f0 := n1.2 0
                  have f1 := n1.2 1
                  have f2 := n1.2 2
                  have N1R := hide n1
                  have HBE := hide (unhide HW)
                  clear n1
                  go_wp2
                  obtain ⟨F, hF⟩ : ∃ F, F = (((W.setCell ⟨w.heap.size + 1, 0, none⟩ (.string ⟨#[]⟩)).setCell ⟨w.heap.size + 1, 1, none⟩ (.slice none 0 0)).setCell ⟨w.heap.size + 1, 2, none⟩ (.int .i64 0)) := ⟨_, rfl⟩
                  have hn := (((unhide N1R).set 0 (.string ⟨#[]⟩) (by simp)).set 1 (.slice none 0 0) (by simp)).set 2 (.int .i64 0) (by simp)
                  have hFB := (((Below.refl w.heap.size W).setCell (p := ⟨w.heap.size + 1, 0, none⟩) (by simp) (.string ⟨#[]⟩)).setCell (p := ⟨w.heap.size + 1, 1, none⟩) (by simp) (.slice none 0 0)).setCell (p := ⟨w.heap.size + 1, 2, none⟩) (by simp) (.int .i64 0)
                  have hFO : ∀ b, w.heap.size + 2 ≤ b → F.heap[b]? = W.heap[b]? := fun b hb => by rw [hF, Below.heap_setCell _ _ _ _ (by simp; omega), Below.heap_setCell _ _ _ _ (by simp; omega), Below.heap_setCell _ _ _ _ (by simp; omega)]
                  have hFS : F.heap.size = W.heap.size := by rw [hF]; simp [World.setCell]
                  rw [← hF] at hn hFB ⊢
                  have g0 := hn.cellAt (i := 0) rfl
                  have g1 := hn.cellAt (i := 1) rfl
                  have g2 := hn.cellAt (i := 2) rfl
                  refine bodyPost_ret (v := .tuple #[.agg #[Value.string ⟨#[]⟩, Value.slice none 0 0, Value.int .i64 0], .bool false]) (by simp [results, Try.results12, go_sem, g0, g1, g2]) rfl ?_
                  rw [unhide HRR]
                  exact ⟨.slice none 0 0, rfl, ⟨none, 0, rfl, .inl rfl⟩, (unhide HBE).trans hFB⟩
          · have HRR : Hid (R = none) := hide (by rw [unhide HX2, find_none (fun j hj => unhide HN j hj (by omega))]; rfl)
            clear HX2 HN
            have n1 := unhide N1
            have q0 := n1.cellAt (i := 0) rfl
            have q1 := n1.cellAt (i := 1) rfl
            have q2 := n1.cellAt (i := 2) rfl
            have f0 := n1.2 0
            have f1 := n1.2 1
            have f2 := n1.2 2
            have N1R := hide n1
            have HBE := hide (unhide HW)
            clear n1
            go_wp2
            obtain ⟨F, hF⟩ : ∃ F, F = (((W.setCell ⟨w.heap.size + 1, 0, none⟩ (.string ⟨#[]⟩)).setCell ⟨w.heap.size + 1, 1, none⟩ (.slice none 0 0)).setCell ⟨w.heap.size + 1, 2, none⟩ (.int .i64 0)) := ⟨_, rfl⟩
            have hn := (((unhide N1R).set 0 (.string ⟨#[]⟩) (by simp)).set 1 (.slice none 0 0) (by simp)).set 2 (.int .i64 0) (by simp)
            have hFB := (((Below.refl w.heap.size W).setCell (p := ⟨w.heap.size + 1, 0, none⟩) (by simp) (.string ⟨#[]⟩)).setCell (p := ⟨w.heap.size + 1, 1, none⟩) (by simp) (.slice none 0 0)).setCell (p := ⟨w.heap.size + 1, 2, none⟩) (by simp) (.int .i64 0)
            have hFO : ∀ b, w.heap.size + 2 ≤ b → F.heap[b]? = W.heap[b]? := fun b hb => by rw [hF, Below.heap_setCell _ _ _ _ (by simp; omega), Below.heap_setCell _ _ _ _ (by simp; omega), Below.heap_setCell _ _ _ _ (by simp; omega)]
            have hFS : F.heap.size = W.heap.size := by rw [hF]; simp [World.setCell]
            rw [← hF] at hn hFB ⊢
            have g0 := hn.cellAt (i := 0) rfl
            have g1 := hn.cellAt (i := 1) rfl
            have g2 := hn.cellAt (i := 2) rfl
            refine bodyPost_ret (v := .tuple #[.agg #[Value.string ⟨#[]⟩, Value.slice none 0 0, Value.int .i64 0], .bool false]) (by simp [results, Try.results12, go_sem, g0, g1, g2]) rfl ?_
            rw [unhide HRR]
            exact ⟨.slice none 0 0, rfl, ⟨none, 0, rfl, .inl rfl⟩, (unhide HBE).trans hFB⟩
end Go.Proofs.Ytkiaidjkhhljhaa
