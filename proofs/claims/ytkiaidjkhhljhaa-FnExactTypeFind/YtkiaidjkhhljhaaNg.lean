/- The walk of impl.TypeFind at a name of the module itself. Conditions: the module can be read, and weighs at most 2^20. -/
import Derived.Test.YtkiaidjkhhljhaaNf
namespace Go.Proofs.Ytkiaidjkhhljhaa
open Go.RowKit Go.PlainAid

set_option maxRecDepth 100000 in
set_option maxHeartbeats 4000000 in
theorem TypeFindI_own (lo h lo2 : Nat) (v : Value) (m : TM) (a : Option Addr) (cap : Nat) (ys : List TY) (md nm : ByteArray) (w : World) (hM : IsMod w lo w.heap.size h v m) (hwt : ∀ f ∈ m.funs, f.args.length ≤ 1048576 ∧ f.name.size ≤ 1048576)
    (hY : IsFaces (IsFace w lo2 w.heap.size) w lo2 w.heap.size a ys) (hmd : (md.toList == []) = true) :
    Calls Try.prog 15 #[v, .slice a ys.length cap, .string md, .string nm] w fun r w' => FPost w (findSig m ys md nm) r w' := by
  have HX : Hid (findSig m ys md nm = (m.funs.find? (isF nm)).map sigOf) := hide (by unfold findSig; rw [if_pos hmd])
  generalize findSig m ys md nm = R at HX ⊢
  obtain ⟨us, fs, mn⟩ := m
  obtain ⟨a1, a2, a3, k1, k2, k3, rfl, ⟨hz1, hz2, _, _, _⟩, q1, q2, _⟩ := hM
  dsimp only at hz1 hz2 q1 q2 hwt
  have n0 : Blk ((w.alloc (.cells [Value.slice a1 us.length k1, Value.slice a2 fs.length k2, Value.slice a3 mn.length k3].toArray 43)).alloc (.cells [Value.string ⟨#[]⟩, Value.slice none 0 0, Value.int .i64 0].toArray 37)) w.heap.size [Value.slice a1 us.length k1, Value.slice a2 fs.length k2, Value.slice a3 mn.length k3] := (Blk.new w [Value.slice a1 us.length k1, Value.slice a2 fs.length k2, Value.slice a3 mn.length k3] 43).old _ (by simp)
  have n1 : Blk ((w.alloc (.cells [Value.slice a1 us.length k1, Value.slice a2 fs.length k2, Value.slice a3 mn.length k3].toArray 43)).alloc (.cells [Value.string ⟨#[]⟩, Value.slice none 0 0, Value.int .i64 0].toArray 37)) (w.heap.size + 1) [Value.string ⟨#[]⟩, Value.slice none 0 0, Value.int .i64 0] := by
    have := Blk.new (w.alloc (.cells [Value.slice a1 us.length k1, Value.slice a2 fs.length k2, Value.slice a3 mn.length k3].toArray 43)) [Value.string ⟨#[]⟩, Value.slice none 0 0, Value.int .i64 0] 37
    rw [alloc_size] at this
    exact this
  have hW : Below w.heap.size w ((w.alloc (.cells [Value.slice a1 us.length k1, Value.slice a2 fs.length k2, Value.slice a3 mn.length k3].toArray 43)).alloc (.cells [Value.string ⟨#[]⟩, Value.slice none 0 0, Value.int .i64 0].toArray 37)) := ((Below.refl _ w).alloc (Nat.le_refl _) _).alloc (by simp) _
  have HFS := hide (fun (W : World) (hb : Below w.heap.size w W) => q2.kept hb hb.size)
  have HUS := hide (fun (W : World) (hb : Below w.heap.size w W) => q1.kept hb hb.size)
  have HYS := hide (fun (W : World) (hb : Below w.heap.size w W) => hY.kept hb hb.size)
  unfold maxLen at hz2
  clear q1 q2 hY
  dsimp only at HX
  clear HUS HYS
  go_enter Try.func15, Try.ntmps15
  go_wp2
  obtain ⟨W, hWW⟩ : ∃ W, W = ((w.alloc (.cells [Value.slice a1 us.length k1, Value.slice a2 fs.length k2, Value.slice a3 mn.length k3].toArray 43)).alloc (.cells [Value.string ⟨#[]⟩, Value.slice none 0 0, Value.int .i64 0].toArray 37)) := ⟨_, rfl⟩
  have hWs : W.heap.size = w.heap.size + 1 + 1 := by rw [hWW]; simp
  rw [← hWW] at n0 n1 hW ⊢
  clear hWW
  have N1 := hide n1
  have HW := hide hW
  have HWS := hide hWs
  clear n0 n1 hW hWs
  go_loopw [11, 21] (fun _ i wr => ∃ k : Nat, k ≤ fs.length ∧ i = .int .i64 k ∧ Hid (∀ j (hj : j < fs.length), j < k → isF nm fs[j] = false) ∧ Hid (Below W.heap.size W wr)) (fun _ i _ => fs.length - (intOf i).toNat)
  case atStart => exact ⟨0, Nat.zero_le _, rfl, hide (fun j _ hj => absurd hj (Nat.not_lt_zero _)), hide (Below.refl _ _)⟩
  case round =>
    obtain ⟨k, hk, rfl, HN, HB⟩ := hrel
    have HWR := hide ((unhide HW).trans ((unhide HB).mono (by have := unhide HWS; omega)))
    have HSZ : Hid (w.heap.size + 1 + 1 ≤ wr.heap.size) := hide (by have := unhide HWS; have := (unhide HB).size; omega)
    by_cases hp : k < fs.length
    · rcases unhide HFS _ (unhide HWR) with hq | ⟨b, off, rfl, hbl, hbn, hcs⟩
      · rw [hq] at hp; simp at hp
      obtain ⟨c0, c1, c2, c3, c4, c5, c6, c7, c8, d0, d1, d2, d3, d4, d5, d6, d7, d8, hr⟩ := hcs k hp
      have hwk := hwt _ (List.getElem_mem hp)
      have HNX := hide (fun (he : isF nm (fs[k]'hp) = false) => no_next hp (unhide HN) he)
      have HFX := hide (fun (he : isF nm (fs[k]'hp) = true) => find_at hp (unhide HN) he)
      obtain ⟨x, hx⟩ : ∃ x, fs[k]'hp = x := ⟨_, rfl⟩
      rw [hx] at hr hwk HNX HFX
      have HIS : Hid (isF nm x = (x.name.toList == nm.toList)) := hide rfl
      obtain ⟨xs, xp, xa, xl, xc, xt, xk, xm, xn, xd, ya, yl, yc, rfl, rfl, rfl, rfl, rfl, rfl, rfl, rfl, rfl⟩ := IsFun.form h hr
      have hxn : x.name = xs := by
        obtain ⟨_, _, _, _, _, _, _, hv, _⟩ := hr
        simp only [Value.agg.injEq, Array.mk.injEq, List.cons.injEq, Value.string.injEq] at hv
        exact hv.1.symm
      rw [hxn] at HIS
      have HFO := hide (fun (W' : World) (hb : Below wr.heap.size wr W') => faceSigOf_any lo h _ x W' (IsFun.same h (Below.same hb) (Nat.le_refl _) hb.size _ _ hr) hwk.1 hwk.2)
      have n1 := (unhide N1).below (unhide HB) (by have := unhide HWS; omega)
      have NR := hide n1
      clear hcs hr hx hwk n1
      cases he : (xs.toList == nm.toList) with
      | true =>
        have HRR : Hid (R = some (sigOf x)) := hide (by rw [unhide HX, unhide HFX ((unhide HIS).trans he)]; rfl)
        clear HX HFX HNX HN
        go_wp2_with fail
        refine (unhide HFO _ (below_newY _ _)).mono ?_
        rintro r w2 ⟨v2, rfl, ho2, hb2⟩
        obtain ⟨o2, p2, rfl, hk2⟩ := ho2
        have n2 := ((unhide NR).old (.cells #[.string xs, .bool xp, .slice xa xl xc, .int .i64 xt, .int .i64 xk, .int .i64 xm, .string xn, .string xd, .slice ya yl yc] 66) (by have := unhide HSZ; omega)).below hb2 (by have := unhide HSZ; simp; omega)
        have hB2 := (unhide HWR).trans (((below_newY wr (.cells #[.string xs, .bool xp, .slice xa xl xc, .int .i64 xt, .int .i64 xk, .int .i64 xm, .string xn, .string xd, .slice ya yl yc] 66)).trans (hb2.mono (by simp))).mono (unhide HWR).size)
        have hs2 : wr.heap.size + 1 ≤ w2.heap.size := by have := hb2.size; rw [alloc_size] at this; exact this
        rw [alloc_size] at hk2
        have q0 := n2.cellAt (i := 0) rfl
        have q1 := n2.cellAt (i := 1) rfl
        have q2 := n2.cellAt (i := 2) rfl
        have f0 := n2.2 0
        have f1 := n2.2 1
        have f2 := n2.2 2
        have N1R := hide n2
        have HB2 := hide hB2
        have HK2 := hide hk2
        have HS2 := hide hs2
        obtain ⟨sn, hsn⟩ : ∃ sn, (sigOf x).name = sn := ⟨_, rfl⟩
        obtain ⟨st, hst⟩ : ∃ st, (sigOf x).type = st := ⟨_, rfl⟩
        obtain ⟨sa, hsa⟩ : ∃ sa, (sigOf x).args = sa := ⟨_, rfl⟩
        rw [hsn, hst, hsa]
        rw [hsa] at HK2
        have HSS := hide (And.intro hsn (And.intro hst hsa))
        clear n2 hb2 hB2 hk2 hs2 hsn hst hsa HFO d0 d1 d2 d3 d4 d5 d6 d7 d8
        go_wp2
        obtain ⟨F, hF⟩ : ∃ F, F = (((w2.setCell ⟨w.heap.size + 1, 0, none⟩ (.string sn)).setCell ⟨w.heap.size + 1, 1, none⟩ (.slice o2 sa.length p2)).setCell ⟨w.heap.size + 1, 2, none⟩ (.int .i64 st)) := ⟨_, rfl⟩
        have hn := (((unhide N1R).set 0 (.string sn) (by simp)).set 1 (.slice o2 sa.length p2) (by simp)).set 2 (.int .i64 st) (by simp)
        have hFB := (((Below.refl w.heap.size w2).setCell (p := ⟨w.heap.size + 1, 0, none⟩) (by simp) (.string sn)).setCell (p := ⟨w.heap.size + 1, 1, none⟩) (by simp) (.slice o2 sa.length p2)).setCell (p := ⟨w.heap.size + 1, 2, none⟩) (by simp) (.int .i64 st)
        have hFO : ∀ b, w.heap.size + 2 ≤ b → F.heap[b]? = w2.heap[b]? := fun b hb => by rw [hF, Below.heap_setCell _ _ _ _ (by simp; omega), Below.heap_setCell _ _ _ _ (by simp; omega), Below.heap_setCell _ _ _ _ (by simp; omega)]
        have hFS : F.heap.size = w2.heap.size := by rw [hF]; simp [World.setCell]
        rw [← hF] at hn hFB ⊢
        have g0 := hn.cellAt (i := 0) rfl
        have g1 := hn.cellAt (i := 1) rfl
        have g2 := hn.cellAt (i := 2) rfl
        refine bodyPost_ret (v := .tuple #[.agg #[Value.string sn, Value.slice o2 sa.length p2, Value.int .i64 st], .bool true]) (by simp [results, Try.results15, go_sem, g0, g1, g2]) rfl ?_
        obtain ⟨e1, e2, e3⟩ := unhide HSS
        rw [unhide HRR]
        refine ⟨.slice o2 sa.length p2, by rw [← e1, ← e2]; rfl, ?_, (unhide HB2).trans hFB⟩
        show OwnI F w.heap.size F.heap.size _ (sigOf x).args
        rw [e3]
        refine ⟨o2, p2, rfl, ?_⟩
        rcases unhide HK2 with h | ⟨b, h1, h2, h3, h4, h5⟩
        · exact .inl h
        · have hblk := hFO b (by have := unhide HSZ; omega)
          exact .inr ⟨b, h1, by have := unhide HSZ; omega, by omega, fun j hj => (World.cell?_of_block (w := w2) (a := ⟨b, j, none⟩) hblk).trans (h4 j hj), fun j => (World.frozen?_of_block (w := w2) (a := ⟨b, j, none⟩) hblk).trans (h5 j)⟩
      | false =>
        have HNN := hide (unhide HNX ((unhide HIS).trans he))
        clear HX HFX HNX HN HFO
        go_wp2
        go_roundw
        case rel => exact ⟨k + 1, by omega, by go_num, HNN, hide ((unhide HB).alloc (unhide HB).size _)⟩
        case measure => simp [intOf]; omega
    · have HRR : Hid (R = none) := hide (by rw [unhide HX, find_none (fun j hj => unhide HN j hj (by omega))]; rfl)
      have n1 := (unhide N1).below (unhide HB) (by have := unhide HWS; omega)
      have q0 := n1.cellAt (i := 0) rfl
      have q1 := n1.cellAt (i := 1) rfl
      have q2 := n1.cellAt (i := 2) rfl
      have f0 := n1.2 0
      have f1 := n1.2 1
      have f2 := n1.2 2
      have N1R := hide n1
      clear n1 HX HN
      go_wp2
      obtain ⟨F, hF⟩ : ∃ F, F = (((wr.setCell ⟨w.heap.size + 1, 0, none⟩ (.string ⟨#[]⟩)).setCell ⟨w.heap.size + 1, 1, none⟩ (.slice none 0 0)).setCell ⟨w.heap.size + 1, 2, none⟩ (.int .i64 0)) := ⟨_, rfl⟩
      have hn := (((unhide N1R).set 0 (.string ⟨#[]⟩) (by simp)).set 1 (.slice none 0 0) (by simp)).set 2 (.int .i64 0) (by simp)
      have hFB := (((Below.refl w.heap.size wr).setCell (p := ⟨w.heap.size + 1, 0, none⟩) (by simp) (.string ⟨#[]⟩)).setCell (p := ⟨w.heap.size + 1, 1, none⟩) (by simp) (.slice none 0 0)).setCell (p := ⟨w.heap.size + 1, 2, none⟩) (by simp) (.int .i64 0)
      have hFO : ∀ b, w.heap.size + 2 ≤ b → F.heap[b]? = wr.heap[b]? := fun b hb => by rw [hF, Below.heap_setCell _ _ _ _ (by simp; omega), Below.heap_setCell _ _ _ _ (by simp; omega), Below.heap_setCell _ _ _ _ (by simp; omega)]
      have hFS : F.heap.size = wr.heap.size := by rw [hF]; simp [World.setCell]
      rw [← hF] at hn hFB ⊢
      have g0 := hn.cellAt (i := 0) rfl
      have g1 := hn.cellAt (i := 1) rfl
      have g2 := hn.cellAt (i := 2) rfl
      refine bodyPost_ret (v := .tuple #[.agg #[Value.string ⟨#[]⟩, Value.slice none 0 0, Value.int .i64 0], .bool false]) (by simp [results, Try.results15, go_sem, g0, g1, g2]) rfl ?_
      rw [unhide HRR]
      exact ⟨.slice none 0 0, rfl, ⟨none, 0, rfl, .inl rfl⟩, (unhide HWR).trans hFB⟩
end Go.Proofs.Ytkiaidjkhhljhaa
