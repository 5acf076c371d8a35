/- The walk of impl.faceSigOf: the signature of a function, in new memory. Conditions: the function can be read, and weighs at most 2^20. -/
import Derived.Test.YtkiaidjkhhljhaaGreatNb
import Derived.Test.YtkiaidjkhhljhaaGreatCl
import Derived.Test.YtkiaidjkhhljhaaGreatUe
import Derived.Deep.CutRange
import Derived.Deep.RegionWith
namespace Go.Proofs.YtkiaidjkhhljhaaGreat
open Go.RowKit Go.PlainAid

theorem own_sliceN {W : World} {m e size k : Nat} {v : Value} {xs : List Value} (h : W.ownsRow m e size v k xs) : ∃ ao cap, v = .slice ao k cap := by
  rcases h.2 with ⟨h1, h2⟩ | ⟨g, cap, cur, h1, _⟩
  · exact ⟨none, 0, by rw [h1, h2]⟩
  · exact ⟨_, cap, h1⟩
theorem own_keptN {W W' : World} {base e s n : Nat} {v : Value} {xs : List Value} (h : W.ownsRow base e s v n xs) (hb : Below W.heap.size W W') : W'.ownsRow base e s v n xs := by
  refine ⟨h.1, ?_⟩
  rcases h.2 with h1 | ⟨g, cap, cur, h1, h2, h3, h4⟩
  · exact .inl h1
  · refine .inr ⟨g, cap, cur, h1, h2, ?_, h4⟩
    rw [hb.block g (by
      rcases Nat.lt_or_ge g W.heap.size with h | h
      · exact h
      · rw [Array.getElem?_eq_none h] at h3; cases h3)]
    exact h3
theorem one_newN (W : World) (v : Value) (t : TypeId) : ∀ j u, [v][j]? = some u → (W.alloc (.cells #[v] t)).cell? ((⟨W.heap.size, 0, none⟩ : Addr).add j) = some u := fun j u hu => by
  rw [Addr.add_lit, Nat.zero_add, alloc_cell]
  simpa using hu
theorem own_setN {W : World} {base e s n B j : Nat} {v u : Value} {xs : List Value} (h : W.ownsRow base e s v n xs) (hB : B < base) : (W.setCell ⟨B, j, none⟩ u).ownsRow base e s v n xs := by
  refine ⟨h.1, ?_⟩
  rcases h.2 with h1 | ⟨g, cap, cur, h1, h2, h3, h4⟩
  · exact .inl h1
  · exact .inr ⟨g, cap, cur, h1, h2, by rw [Below.heap_setCell _ _ _ _ (by simp; omega)]; exact h3, h4⟩
/-- The signature of a function. -/
def sigOf (f : TF) : TS := ⟨f.name, f.args.map TA.type, f.type⟩

set_option maxRecDepth 100000 in
set_option maxHeartbeats 4000000 in
theorem faceSigOf_any (lo h : Nat) (v : Value) (f : TF) (w : World) (hF : IsFun w lo w.heap.size h v f) (hl : f.args.length ≤ 1048576) (hs : f.name.size ≤ 1048576) :
    Calls Tryz.prog 25 #[v] w fun r w' => OwnSig w w.heap.size r (sigOf f) w' := by
  obtain ⟨i0, hi, hz0, hz1, hz2⟩ := info_parts intinfo
  obtain ⟨nm, pb, args, ty, body⟩ := f
  obtain ⟨aa, ca, b0, b1, b2, b3, b4, rfl, _, ha, _⟩ := hF
  dsimp only at ha hl hs
  show Calls Tryz.prog 25 #[.agg #[.string nm, .bool pb, .slice aa args.length ca, .int .i64 ty, b0, b1, b2, b3, b4]] w fun r w' => ∃ v : Value, r = .returned (.agg #[.string nm, v, .int .i64 ty]) ∧ OwnI w' w.heap.size w'.heap.size v (args.map TA.type) ∧ Below w.heap.size w w'
  have HA := hide (fun (W : World) (hb : Below w.heap.size w W) => ha.kept hb hb.size)
  have HC := hide (fun (W : World) => Clone_any nm W (by omega))
  clear ha hs
  have N0 : Hid (Blk ((w.alloc (.cells [Value.string nm, Value.bool pb, Value.slice aa args.length ca, Value.int .i64 ty, b0, b1, b2, b3, b4].toArray 33)).alloc (.cells [Value.string ⟨#[]⟩, Value.slice none 0 0, Value.int .i64 0].toArray 65)) w.heap.size [Value.string nm, Value.bool pb, Value.slice aa args.length ca, Value.int .i64 ty, b0, b1, b2, b3, b4]) := hide ((Blk.new w [Value.string nm, Value.bool pb, Value.slice aa args.length ca, Value.int .i64 ty, b0, b1, b2, b3, b4] 33).old _ (by simp))
  have N1 : Hid (Blk ((w.alloc (.cells [Value.string nm, Value.bool pb, Value.slice aa args.length ca, Value.int .i64 ty, b0, b1, b2, b3, b4].toArray 33)).alloc (.cells [Value.string ⟨#[]⟩, Value.slice none 0 0, Value.int .i64 0].toArray 65)) (w.heap.size + 1) [Value.string ⟨#[]⟩, Value.slice none 0 0, Value.int .i64 0]) := hide (by
    have := Blk.new (w.alloc (.cells [Value.string nm, Value.bool pb, Value.slice aa args.length ca, Value.int .i64 ty, b0, b1, b2, b3, b4].toArray 33)) [Value.string ⟨#[]⟩, Value.slice none 0 0, Value.int .i64 0] 65
    rw [alloc_size] at this
    exact this)
  have HW : Hid (Below w.heap.size w ((w.alloc (.cells [Value.string nm, Value.bool pb, Value.slice aa args.length ca, Value.int .i64 ty, b0, b1, b2, b3, b4].toArray 33)).alloc (.cells [Value.string ⟨#[]⟩, Value.slice none 0 0, Value.int .i64 0].toArray 65))) := hide (((Below.refl _ w).alloc (Nat.le_refl _) _).alloc (by simp) _)
  go_enter Tryz.func25, Tryz.ntmps25
  go_upto_region 1 with fail
  obtain ⟨W, hW⟩ : ∃ W, W = ((w.alloc (.cells [Value.string nm, Value.bool pb, Value.slice aa args.length ca, Value.int .i64 ty, b0, b1, b2, b3, b4].toArray 33)).alloc (.cells [Value.string ⟨#[]⟩, Value.slice none 0 0, Value.int .i64 0].toArray 65)) := ⟨_, rfl⟩
  have hWs : W.heap.size = w.heap.size + 1 + 1 := by rw [hW]; simp
  rw [← hW] at N0 N1 HW ⊢
  clear hW
  have p0 := (unhide N0).cellAt (i := 0) rfl
  have p3 := (unhide N0).cellAt (i := 3) rfl
  have HD0 : Hid (∀ W' : World, Below W.heap.size W W' → W'.cell? ⟨w.heap.size, 0, none⟩ = some (.string nm) ∧ W'.cell? ⟨w.heap.size, 3, none⟩ = some (.int .i64 ty)) := hide (fun W' hb => ⟨((unhide N0).below hb (by omega)).cellAt (i := 0) rfl, ((unhide N0).below hb (by omega)).cellAt (i := 3) rfl⟩)
  have p0' : ∀ o : Obj, (W.drew.alloc o).cell? ⟨w.heap.size, 0, none⟩ = some (.string nm) := fun o => (unhide HD0 _ ((Below.refl _ W).drew.alloc (Nat.le_refl _) o)).1
  have p3' : ∀ o : Obj, (W.drew.alloc o).cell? ⟨w.heap.size, 3, none⟩ = some (.int .i64 ty) := fun o => (unhide HD0 _ ((Below.refl _ W).drew.alloc (Nat.le_refl _) o)).2
  have hlt : w.heap.size < W.heap.size := by omega
  have hne : w.heap.size ≠ W.heap.size := by omega
  have HWS := hide hWs
  clear hWs
  go_cut [3] from 6 to 11 (fun s wc => ∃ B : Nat, s = .pointer (some ⟨B, 0, none⟩) ∧ w.heap.size + 2 ≤ B ∧ B < wc.heap.size ∧ Hid (Blk wc B [.string nm, .slice none 0 0, .int .i64 ty]) ∧ Hid (Below W.heap.size W wc))
  case first =>
    go_region_with (go_at_call 64; refine (unhide HC _).mono ?_; rintro r w2 ⟨rfl, hb2⟩; first | (have kW : Below W.heap.size W w2 := (Below.refl _ W).drew.trans hb2; have z3 := (unhide HD0 w2 kW).2; have z3' : ∀ o : Obj, (w2.alloc o).cell? ⟨w.heap.size, 3, none⟩ = some (.int .i64 ty) := fun o => (unhide HD0 _ (kW.alloc kW.size o)).2; have hlt2 : w.heap.size < w2.heap.size := (by have := kW.size; omega); have hne2 : w.heap.size ≠ w2.heap.size := (by omega)) | (have n3 : Blk w2 W.heap.size [Value.string ⟨#[]⟩, Value.slice none 0 0, Value.int .i64 0] := (Blk.new W.drew [Value.string ⟨#[]⟩, Value.slice none 0 0, Value.int .i64 0] 65).below hb2 (by simp); have y0 := n3.cellAt (i := 0) rfl; have y1 := n3.cellAt (i := 1) rfl; have y2 := n3.cellAt (i := 2) rfl; have x0 := n3.2 0; have x1 := n3.2 1; have x2 := n3.2 2; have kW : Below W.heap.size W w2 := (((Below.refl _ W).drew.alloc (Nat.le_refl _) _)).trans (hb2.mono (by simp)); have z3 := (unhide HD0 w2 kW).2; have z3' : ∀ o : Obj, (w2.alloc o).cell? ⟨w.heap.size, 3, none⟩ = some (.int .i64 ty) := fun o => (unhide HD0 _ (kW.alloc kW.size o)).2; have hlt2 : w.heap.size < w2.heap.size := (by have := kW.size; omega); have hne2 : w.heap.size ≠ w2.heap.size := (by omega)))
    all_goals (
      go_wp2_with fail
      go_meet)
    all_goals first
      | exact ⟨w2.heap.size, rfl, by have := unhide HWS; have := kW.size; omega, by simp, hide (Blk.new w2 [.string nm, .slice none 0 0, .int .i64 ty] 65), hide (kW.alloc kW.size _)⟩
      | exact ⟨W.heap.size, rfl, by have := unhide HWS; omega, by have := hb2.size; simp [World.setCell] at this ⊢; omega, hide (((n3.set 0 (.string nm) (by simp)).set 1 (.slice none 0 0) (by simp)).set 2 (.int .i64 ty) (by simp)), hide (((kW.setCell (p := ⟨W.heap.size, 0, none⟩) (Nat.le_refl _) _).setCell (p := ⟨W.heap.size, 1, none⟩) (Nat.le_refl _) _).setCell (p := ⟨W.heap.size, 2, none⟩) (Nat.le_refl _) _)⟩
  case rest =>
  obtain ⟨B, rfl, hB1, hB2, HBK, HBW⟩ := hcut
  clear p0 p3 p0' p3' hlt hne HD0 HC
  have n0 := (unhide N0).below (unhide HBW) (by have := unhide HWS; omega)
  have n1 := (unhide N1).below (unhide HBW) (by have := unhide HWS; omega)
  have hwc : Below w.heap.size w wc := (unhide HW).trans ((unhide HBW).mono (by have := unhide HWS; omega))
  have HWC := hide hwc
  have p2 := n0.cellAt (i := 2) rfl
  have NN1 := hide n1
  clear n0 n1 hwc N0 N1 HW HBW
  go_wp2
  go_loopw [5, 15] (fun _ i wr => ∃ (k : Nat) (v : Value), k ≤ args.length ∧ i = .int .i64 k ∧ Hid (wr.ownsRow wc.heap.size 3 1 v k (((args.take k).map TA.type).map (Value.int .i64))) ∧ Hid (Blk wr B [.string nm, v, .int .i64 ty]) ∧ Hid (Below B wc wr) ∧ B < wr.heap.size) (fun _ i _ => args.length - (intOf i).toNat)
  case atStart => exact ⟨0, .slice none 0 0, Nat.zero_le _, rfl, hide (World.ownsRow_nil _ _ _ _), HBK, hide (Below.refl _ _), hB2⟩
  case round =>
    obtain ⟨k, v, hk, rfl, HROW, HBLK, HB, hBr⟩ := hrel
    obtain ⟨vs, cp, rfl⟩ := own_sliceN (unhide HROW)
    have hwr : Below w.heap.size w wr := (unhide HWC).trans ((unhide HB).mono (by omega))
    have HWR := hide hwr
    clear hwr
    by_cases hp : k < args.length
    · rcases unhide HA _ (unhide HWR) with hq | ⟨b, off, rfl, hbl, hbn, hcs⟩
      · rw [hq] at hp; simp at hp
      obtain ⟨c0, c1, d0, d1, hr⟩ := hcs k hp
      have htk : args.take (k + 1) = args.take k ++ [args[k]] := List.take_succ_eq_append_getElem hp
      obtain ⟨x, hx⟩ : ∃ x, args[k]'hp = x := ⟨_, rfl⟩
      rw [hx] at hr htk
      have hv := hr.1
      simp only [Value.agg.injEq, Array.mk.injEq, List.cons.injEq, and_true] at hv
      obtain ⟨rfl, rfl⟩ := hv
      obtain ⟨xn, xt⟩ := x
      dsimp only at d0 d1
      have HTK := hide htk
      have e1 := (unhide HBLK).cellAt (i := 1) rfl
      have hBne : B ≠ wr.heap.size := by omega
      clear hcs hr hx htk
      go_wp2_with (at_builtin; refine wpList_append_own _ rfl _ _ 63 rfl wc.heap.size 3 i0 (.int .i64 0) 1 8 Tryz.underlying63 hi hz0 hz1 hz2 rfl (by decide) _ _ _ rfl (((unhide HROW).alloc _).alloc _) ⟨wr.heap.size + 1, 0, none⟩ 1 1 [.int .i64 xt] rfl rfl ?cn (by simp [Value.oneCell']) (by unfold maxLen; omega) (by omega) (by have := (unhide HB).size; simp; omega) ?_; rotate_left; intro v2 w3 hown2 hgrow2 _; obtain ⟨vs2, cp2, rfl⟩ := own_sliceN hown2; have hb3 : Below wc.heap.size ((wr.alloc (.cells #[.string xn, .int .i64 xt] 110)).alloc (.cells #[.int .i64 xt] 3)) w3 := ((Below.refl _ _).grown hgrow2 (by have := (unhide HB).size; simp; omega) (fun q hq => (((unhide HROW).lt q hq)).1)); have n3 : Blk w3 B [.string nm, .slice vs k cp, .int .i64 ty] := (((unhide HBLK).old _ hBr).old _ (by simp; omega)).below hb3 hB2; have g1 := n3.cellAt (i := 1) rfl; have f1 := n3.2 1; have NN3 := hide n3; have HB3 := hide hb3; have HO3 := hide hown2; clear n3 hb3 hown2 hgrow2 e1 d0 d1)
      case cn =>
        have := one_newN (wr.alloc (.cells #[.string xn, .int .i64 xt] 110)) (.int .i64 xt) 3
        rw [alloc_size] at this
        exact this
      go_roundw
      case rel =>
        refine ⟨k + 1, .slice vs2 (k + 1) cp2, by omega, by go_num, hide ?_, hide ((unhide NN3).set 1 (.slice vs2 (k + 1) cp2) (by simp)), hide ?_, ?_⟩
        · rw [unhide HTK, List.map_append, List.map_append]
          exact own_setN (unhide HO3) hB2
        · refine Below.setCell ?_ (p := ⟨B, 1, none⟩) (Nat.le_refl _) _
          exact (unhide HB).trans ((((Below.refl _ wr).alloc (by omega) _).alloc (by simp; omega) _).trans ((unhide HB3).mono (by omega)))
        · have := (unhide HB3).size
          simp [World.setCell] at this ⊢
          omega
      case measure => simp [intOf]; omega
    · have hek : k = args.length := by omega
      subst hek
      have HR := unhide HROW
      rw [List.take_of_length_le (Nat.le_refl _)] at HR
      have HOI := hide (own_of_row HR)
      clear HR
      have e0 := (unhide HBLK).cellAt (i := 0) rfl
      have e1 := (unhide HBLK).cellAt (i := 1) rfl
      have e2 := (unhide HBLK).cellAt (i := 2) rfl
      have n1 := (unhide NN1).below (unhide HB) (by omega)
      have q0 := n1.cellAt (i := 0) rfl
      have q1 := n1.cellAt (i := 1) rfl
      have q2 := n1.cellAt (i := 2) rfl
      have f0 := n1.2 0
      have f1 := n1.2 1
      have f2 := n1.2 2
      have N1R := hide n1
      clear n1
      go_wp2
      obtain ⟨F, hF⟩ : ∃ F, F = (((wr.setCell ⟨w.heap.size + 1, 0, none⟩ (.string nm)).setCell ⟨w.heap.size + 1, 1, none⟩ (.slice vs args.length cp)).setCell ⟨w.heap.size + 1, 2, none⟩ (.int .i64 ty)) := ⟨_, rfl⟩
      have hn := (((unhide N1R).set 0 (.string nm) (by simp)).set 1 (.slice vs args.length cp) (by simp)).set 2 (.int .i64 ty) (by simp)
      have hFB := (((Below.refl w.heap.size wr).setCell (p := ⟨w.heap.size + 1, 0, none⟩) (by simp) (.string nm)).setCell (p := ⟨w.heap.size + 1, 1, none⟩) (by simp) (.slice vs args.length cp)).setCell (p := ⟨w.heap.size + 1, 2, none⟩) (by simp) (.int .i64 ty)
      have hFO : ∀ b, w.heap.size + 2 ≤ b → F.heap[b]? = wr.heap[b]? := fun b hb => by rw [hF, Below.heap_setCell _ _ _ _ (by simp; omega), Below.heap_setCell _ _ _ _ (by simp; omega), Below.heap_setCell _ _ _ _ (by simp; omega)]
      have hFS : F.heap.size = wr.heap.size := by rw [hF]; simp [World.setCell]
      rw [← hF] at hn hFB ⊢
      have g0 := hn.cellAt (i := 0) rfl
      have g1 := hn.cellAt (i := 1) rfl
      have g2 := hn.cellAt (i := 2) rfl
      refine bodyPost_ret (v := .agg #[Value.string nm, Value.slice vs args.length cp, Value.int .i64 ty]) (by simp [results, Tryz.results25, go_sem, g0, g1, g2]) rfl ?_
      refine ⟨_, rfl, (unhide HOI).same (fun b hb hbn => ⟨fun j => World.cell?_of_block (w := wr) (a := ⟨b, j, none⟩) (hFO b (by omega)), fun j => World.frozen?_of_block (w := wr) (a := ⟨b, j, none⟩) (hFO b (by omega))⟩) (by have := (unhide HWC).size; omega) (by omega), (unhide HWR).trans hFB⟩
end Go.Proofs.YtkiaidjkhhljhaaGreat
