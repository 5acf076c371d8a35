/- The walk of spec.l3Of: the signature of a function, in new memory. Conditions: the function can be read, and weighs at most 2^20. -/
import Derived.Test.YtkiaidjkhhljhaaGreatNc
import Derived.Deep.AppendLies
import Derived.Deep.RegionLaw
namespace Go.Proofs.YtkiaidjkhhljhaaGreat
open Go.RowKit Go.PlainAid

set_option maxRecDepth 100000 in
set_option maxHeartbeats 4000000 in
theorem l3Of_any (lo h : Nat) (v : Value) (f : TF) (w : World) (hF : IsFun w lo w.heap.size h v f) (hl : f.args.length ≤ 1048576) :
    Calls Tryz.prog 33 #[v] w fun r w' => OwnSig w w.heap.size r (sigOf f) w' := by
  obtain ⟨i0, hi, hz0, hz1, hz2⟩ := info_parts intinfo
  obtain ⟨nm, pb, args, ty, body⟩ := f
  obtain ⟨aa, ca, b0, b1, b2, b3, b4, rfl, _, ha, _⟩ := hF
  dsimp only at ha hl
  show Calls Tryz.prog 33 #[.agg #[.string nm, .bool pb, .slice aa args.length ca, .int .i64 ty, b0, b1, b2, b3, b4]] w fun r w' => ∃ v : Value, r = .returned (.agg #[.string nm, v, .int .i64 ty]) ∧ OwnI w' w.heap.size w'.heap.size v (args.map TA.type) ∧ Below w.heap.size w w'
  have HA := hide (fun (W : World) (hb : Below w.heap.size w W) => ha.kept hb hb.size)
  clear ha
  have n0 : Blk (((w.alloc (.cells [Value.string nm, Value.bool pb, Value.slice aa args.length ca, Value.int .i64 ty, b0, b1, b2, b3, b4].toArray 33)).alloc (.cells [Value.string ⟨#[]⟩, Value.slice none 0 0, Value.int .i64 0].toArray 65)).alloc (.cells [Value.string nm, Value.slice none 0 0, Value.int .i64 ty].toArray 65)) w.heap.size [Value.string nm, Value.bool pb, Value.slice aa args.length ca, Value.int .i64 ty, b0, b1, b2, b3, b4] := ((Blk.new w [Value.string nm, Value.bool pb, Value.slice aa args.length ca, Value.int .i64 ty, b0, b1, b2, b3, b4] 33).old _ (by simp)).old _ (by simp only [alloc_size]; omega)
  have n1 : Blk (((w.alloc (.cells [Value.string nm, Value.bool pb, Value.slice aa args.length ca, Value.int .i64 ty, b0, b1, b2, b3, b4].toArray 33)).alloc (.cells [Value.string ⟨#[]⟩, Value.slice none 0 0, Value.int .i64 0].toArray 65)).alloc (.cells [Value.string nm, Value.slice none 0 0, Value.int .i64 ty].toArray 65)) (w.heap.size + 1) [Value.string ⟨#[]⟩, Value.slice none 0 0, Value.int .i64 0] := by
    have := (Blk.new (w.alloc (.cells [Value.string nm, Value.bool pb, Value.slice aa args.length ca, Value.int .i64 ty, b0, b1, b2, b3, b4].toArray 33)) [Value.string ⟨#[]⟩, Value.slice none 0 0, Value.int .i64 0] 65).old (.cells [Value.string nm, Value.slice none 0 0, Value.int .i64 ty].toArray 65) (by simp only [alloc_size]; omega)
    rw [alloc_size] at this
    exact this
  have n2 : Blk (((w.alloc (.cells [Value.string nm, Value.bool pb, Value.slice aa args.length ca, Value.int .i64 ty, b0, b1, b2, b3, b4].toArray 33)).alloc (.cells [Value.string ⟨#[]⟩, Value.slice none 0 0, Value.int .i64 0].toArray 65)).alloc (.cells [Value.string nm, Value.slice none 0 0, Value.int .i64 ty].toArray 65)) (w.heap.size + 1 + 1) [Value.string nm, Value.slice none 0 0, Value.int .i64 ty] := by
    have := Blk.new ((w.alloc (.cells [Value.string nm, Value.bool pb, Value.slice aa args.length ca, Value.int .i64 ty, b0, b1, b2, b3, b4].toArray 33)).alloc (.cells [Value.string ⟨#[]⟩, Value.slice none 0 0, Value.int .i64 0].toArray 65)) [Value.string nm, Value.slice none 0 0, Value.int .i64 ty] 65
    rw [alloc_size, alloc_size] at this
    exact this
  have hW : Below w.heap.size w (((w.alloc (.cells [Value.string nm, Value.bool pb, Value.slice aa args.length ca, Value.int .i64 ty, b0, b1, b2, b3, b4].toArray 33)).alloc (.cells [Value.string ⟨#[]⟩, Value.slice none 0 0, Value.int .i64 0].toArray 65)).alloc (.cells [Value.string nm, Value.slice none 0 0, Value.int .i64 ty].toArray 65)) := (((Below.refl _ w).alloc (Nat.le_refl _) _).alloc (by simp) _).alloc (by simp; omega) _
  go_enter Tryz.func33, Tryz.ntmps33
  go_wp2
  obtain ⟨W, hWW⟩ : ∃ W, W = (((w.alloc (.cells [Value.string nm, Value.bool pb, Value.slice aa args.length ca, Value.int .i64 ty, b0, b1, b2, b3, b4].toArray 33)).alloc (.cells [Value.string ⟨#[]⟩, Value.slice none 0 0, Value.int .i64 0].toArray 65)).alloc (.cells [Value.string nm, Value.slice none 0 0, Value.int .i64 ty].toArray 65)) := ⟨_, rfl⟩
  have hWs : W.heap.size = w.heap.size + 1 + 1 + 1 := by rw [hWW]; simp
  rw [← hWW] at n0 n1 n2 hW ⊢
  clear hWW
  have N0 := hide n0
  have N1 := hide n1
  have N2 := hide n2
  have HW := hide hW
  have HWS := hide hWs
  clear n0 n1 n2 hW hWs
  go_loopw [4] (fun i wr => ∃ (k : Nat) (v : Value), k ≤ args.length ∧ i = .int .i64 k ∧ Hid (wr.ownsRow W.heap.size 3 1 v k (((args.take k).map TA.type).map (Value.int .i64))) ∧ Hid (Blk wr (w.heap.size + 1 + 1) [.string nm, v, .int .i64 ty]) ∧ Hid (Below (w.heap.size + 1 + 1) W wr)) (fun i _ => args.length - (intOf i).toNat)
  case atStart => exact ⟨0, .slice none 0 0, Nat.zero_le _, rfl, hide (World.ownsRow_nil _ _ _ _), N2, hide (Below.refl _ _)⟩
  case round =>
    obtain ⟨k, v, hk, rfl, HROW, HBLK, HB⟩ := hrel
    obtain ⟨vs, cp, rfl⟩ := own_sliceN (unhide HROW)
    have HWR := hide ((unhide HW).trans ((unhide HB).mono (by omega)))
    have n0 := (unhide N0).below (unhide HB) (by omega)
    have p2 := n0.cellAt (i := 2) rfl
    clear n0
    have hsz : w.heap.size + 1 + 1 + 1 ≤ wr.heap.size := by have := unhide HWS; have := (unhide HB).size; omega
    have HSZ := hide hsz
    clear hsz
    by_cases hp : k < args.length
    · rcases unhide HA _ (unhide HWR) with hq | ⟨b, off, rfl, hbl, hbn, hcs⟩
      · rw [hq] at hp; simp at hp
      obtain ⟨c0, c1, d0, d1, hr⟩ := hcs k hp
      have htk : args.take (k + 1) = args.take k ++ [args[k]] := List.take_succ_eq_append_getElem hp
      obtain ⟨x, hx⟩ : ∃ x, args[k]'hp = x := ⟨_, rfl⟩
      rw [hx] at hr htk
      have hv := hr.1
      simp only [Value.agg.injEq, Array.mk.injEq, List.cons.injEq, and_true] at hv
      obtain ⟨rfl, rfl⟩ := hv
      obtain ⟨xn, xt⟩ := x
      dsimp only at d0 d1
      have HTK := hide htk
      have e1 := (unhide HBLK).cellAt (i := 1) rfl
      have hne : w.heap.size + 1 + 1 ≠ wr.heap.size := by have := unhide HSZ; omega
      have hne0 : w.heap.size ≠ wr.heap.size := by have := unhide HSZ; omega
      have hneb : b ≠ wr.heap.size := by omega
      have hlt : w.heap.size + 1 + 1 < wr.heap.size := by have := unhide HSZ; omega
      have hlt0 : w.heap.size < wr.heap.size := by have := unhide HSZ; omega
      clear hcs hr hx htk d0
      go_wp2_with fail
      go_region_law (refine step_append_lies _ rfl (.tmp 18) (.tmp 25) 63 rfl W.heap.size 3 i0 (.int .i64 0) 1 8 Tryz.underlying63 hi hz0 hz1 hz2 rfl (by decide) (.slice vs k cp) k (((args.take k).map TA.type).map (Value.int .i64)) rfl ((unhide HROW).alloc _) ⟨wr.heap.size, 0, none⟩ 1 1 [.int .i64 xt] rfl rfl (one_newN wr (.int .i64 xt) 3) (by simp [Value.oneCell']) (by decide) (by unfold maxLen; omega) (by omega) (by have := (unhide HB).size; simp; omega) (wr.heap.size + 1) (by simp) ?_; intro g4 c4 w4 hown4 hgrow4 hat4 hlt4; have hb3 : Below W.heap.size (wr.drew.alloc (.cells #[.int .i64 xt] 3)) w4 := ((Below.refl _ _).grown hgrow4 (by have := (unhide HB).size; simp; omega) (fun q hq => (((unhide HROW).lt q hq)).1)); have n3 : Blk w4 (w.heap.size + 1 + 1) [.string nm, .slice vs k cp, .int .i64 ty] := ((((unhide HBLK).below (Below.refl wr.heap.size wr).drew (by have := unhide HSZ; omega)).old _ (by have := unhide HSZ; simp; omega))).below hb3 (by have := unhide HWS; omega); have g1 := n3.cellAt (i := 1) rfl; have f1 := n3.2 1; have NN3 := hide n3; have HB3 := hide hb3; have HO3 := hide hown4; clear n3 hb3 hown4 hgrow4 hat4 hlt4)
      all_goals (
        go_wp2
        go_roundw
        case rel =>
          refine ⟨k + 1, .slice (some ⟨g4, 0, none⟩) (k + 1) c4, by omega, by go_num, hide ?_, hide ((unhide NN3).set 1 (.slice (some ⟨g4, 0, none⟩) (k + 1) c4) (by simp)), hide ?_⟩
          · rw [unhide HTK, List.map_append, List.map_append]
            exact own_setN (unhide HO3) (by have := unhide HWS; omega)
          · refine Below.setCell ?_ (p := ⟨w.heap.size + 1 + 1, 1, none⟩) (Nat.le_refl _) _
            exact (unhide HB).trans ((((Below.refl _ wr).drew.alloc (by have := unhide HSZ; simp; omega) _)).trans ((unhide HB3).mono (by have := unhide HWS; omega)))
        case measure => simp [intOf]; omega)
    · have hek : k = args.length := by omega
      subst hek
      have HR := unhide HROW
      rw [List.take_of_length_le (Nat.le_refl _)] at HR
      have HOI := hide (own_of_row HR)
      clear HR
      have e0 := (unhide HBLK).cellAt (i := 0) rfl
      have e1 := (unhide HBLK).cellAt (i := 1) rfl
      have e2 := (unhide HBLK).cellAt (i := 2) rfl
      have n1 := (unhide N1).below (unhide HB) (by omega)
      have q0 := n1.cellAt (i := 0) rfl
      have q1 := n1.cellAt (i := 1) rfl
      have q2 := n1.cellAt (i := 2) rfl
      have f0 := n1.2 0
      have f1 := n1.2 1
      have f2 := n1.2 2
      have N1R := hide n1
      clear n1
      go_wp2
      obtain ⟨F, hF⟩ : ∃ F, F = (((wr.setCell ⟨w.heap.size + 1, 0, none⟩ (.string nm)).setCell ⟨w.heap.size + 1, 1, none⟩ (.slice vs args.length cp)).setCell ⟨w.heap.size + 1, 2, none⟩ (.int .i64 ty)) := ⟨_, rfl⟩
      have hn := (((unhide N1R).set 0 (.string nm) (by simp)).set 1 (.slice vs args.length cp) (by simp)).set 2 (.int .i64 ty) (by simp)
      have hFB := (((Below.refl w.heap.size wr).setCell (p := ⟨w.heap.size + 1, 0, none⟩) (by simp) (.string nm)).setCell (p := ⟨w.heap.size + 1, 1, none⟩) (by simp) (.slice vs args.length cp)).setCell (p := ⟨w.heap.size + 1, 2, none⟩) (by simp) (.int .i64 ty)
      have hFO : ∀ b, w.heap.size + 2 ≤ b → F.heap[b]? = wr.heap[b]? := fun b hb => by rw [hF, Below.heap_setCell _ _ _ _ (by simp; omega), Below.heap_setCell _ _ _ _ (by simp; omega), Below.heap_setCell _ _ _ _ (by simp; omega)]
      have hFS : F.heap.size = wr.heap.size := by rw [hF]; simp [World.setCell]
      rw [← hF] at hn hFB ⊢
      have g0 := hn.cellAt (i := 0) rfl
      have g1 := hn.cellAt (i := 1) rfl
      have g2 := hn.cellAt (i := 2) rfl
      refine bodyPost_ret (v := .agg #[Value.string nm, Value.slice vs args.length cp, Value.int .i64 ty]) (by simp [results, Tryz.results33, go_sem, g0, g1, g2]) rfl ?_
      refine ⟨_, rfl, (unhide HOI).same (fun b hb hbn => ⟨fun j => World.cell?_of_block (w := wr) (a := ⟨b, j, none⟩) (hFO b (by have := unhide HWS; omega)), fun j => World.frozen?_of_block (w := wr) (a := ⟨b, j, none⟩) (hFO b (by have := unhide HWS; omega))⟩) (by have := unhide HWS; omega) (by omega), (unhide HWR).trans hFB⟩
end Go.Proofs.YtkiaidjkhhljhaaGreat
