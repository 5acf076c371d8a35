/- The walk of sig: a line as a signature again, in new memory. Conditions: at most four parameters, none of them nothing. -/
import Derived.Test.YtffabnmgcicpiaaGreatG4
import Derived.Test.YtffabnmgcicpiaaGreatG5
namespace Go.Proofs.YtffabnmgcicpiaaGreat
open Go.RowKit Go.PlainAid

def fl4 (a b c d : Int) (k : Nat) : List Int := (([a, b, c, d].take k).filter (fun x => x != 0))
theorem fl4_step (a b c d : Int) (k : Nat) (hk : k < 4) : fl4 a b c d (k + 1) = fl4 a b c d k ++ (if ([a, b, c, d].getD k 0) = 0 then [] else [[a, b, c, d].getD k 0]) := by
  unfold fl4
  have hk' : k < [a, b, c, d].length := by simpa using hk
  rw [List.take_succ_eq_append_getElem hk', List.filter_append]
  congr 1
  have : [a, b, c, d].getD k 0 = [a, b, c, d][k] := by
    rw [List.getD, List.getElem?_eq_getElem hk']; rfl
  rw [this]
  by_cases h : [a, b, c, d][k] = 0 <;> simp [h]
theorem fl4_len (a b c d : Int) (k : Nat) : (fl4 a b c d k).length ≤ 4 := by
  unfold fl4
  refine Nat.le_trans (List.length_filter_le _ _) ?_
  rw [List.length_take]
  simp
  omega
theorem fl4_args {s : TS} (h4 : s.args.length ≤ 4) (hz : ∀ x ∈ s.args, x ≠ 0) : fl4 (ar s 0) (ar s 1) (ar s 2) (ar s 3) 4 = s.args := by
  obtain ⟨nm, args, ty⟩ := s
  dsimp only at h4 hz
  rcases args with _ | ⟨x0, _ | ⟨x1, _ | ⟨x2, _ | ⟨x3, _ | ⟨x4, r⟩⟩⟩⟩⟩
  · simp [fl4, ar]
  · have h0 := hz x0 (by simp)
    simp [fl4, ar, h0]
  · have h0 := hz x0 (by simp); have h1 := hz x1 (by simp)
    simp [fl4, ar, h0, h1]
  · have h0 := hz x0 (by simp); have h1 := hz x1 (by simp); have h2 := hz x2 (by simp)
    simp [fl4, ar, h0, h1, h2]
  · have h0 := hz x0 (by simp); have h1 := hz x1 (by simp); have h2 := hz x2 (by simp); have h3 := hz x3 (by simp)
    simp [fl4, ar, h0, h1, h2, h3]
  · simp at h4

theorem run_idx4_0 (x0 x1 x2 x3 : Int) (W : World) : (Instr.index 46 (.agg #[.int .i64 x0, .int .i64 x1, .int .i64 x2, .int .i64 x3]) (.int .i64 0)).run Tryz.prog W = .ok (.int .i64 x0) W := by
  simp [Instr.index, run_underlying Tryz.underlying46, asIntOf, go_sem]
theorem run_idx4_1 (x0 x1 x2 x3 : Int) (W : World) : (Instr.index 46 (.agg #[.int .i64 x0, .int .i64 x1, .int .i64 x2, .int .i64 x3]) (.int .i64 1)).run Tryz.prog W = .ok (.int .i64 x1) W := by
  simp [Instr.index, run_underlying Tryz.underlying46, asIntOf, go_sem]
theorem run_idx4_2 (x0 x1 x2 x3 : Int) (W : World) : (Instr.index 46 (.agg #[.int .i64 x0, .int .i64 x1, .int .i64 x2, .int .i64 x3]) (.int .i64 2)).run Tryz.prog W = .ok (.int .i64 x2) W := by
  simp [Instr.index, run_underlying Tryz.underlying46, asIntOf, go_sem]
theorem run_idx4_3 (x0 x1 x2 x3 : Int) (W : World) : (Instr.index 46 (.agg #[.int .i64 x0, .int .i64 x1, .int .i64 x2, .int .i64 x3]) (.int .i64 3)).run Tryz.prog W = .ok (.int .i64 x3) W := by
  simp [Instr.index, run_underlying Tryz.underlying46, asIntOf, go_sem]

set_option maxRecDepth 100000 in
set_option maxHeartbeats 8000000 in
theorem sigM_any (nm : ByteArray) (x0 x1 x2 x3 ty : Int) (Z4 : List Int) (hZ4 : fl4 x0 x1 x2 x3 4 = Z4) (w : World) :
    Calls Tryz.prog 15 #[.agg #[.string nm, .int .i64 x0, .int .i64 x1, .int .i64 x2, .int .i64 x3, .int .i64 ty]] w fun r w' => ∃ v : Value, r = .returned (.agg #[.string nm, v, .int .i64 ty]) ∧ OwnI w' w.heap.size w'.heap.size v Z4 ∧ Below w.heap.size w w' := by
  have HZ4 := hide hZ4
  clear hZ4
  obtain ⟨i0, hi, hz0, hz1, hz2⟩ := info_parts intinfo
  have n0 : Blk (((w.alloc (.cells [Value.string nm, Value.int .i64 x0, Value.int .i64 x1, Value.int .i64 x2, Value.int .i64 x3, Value.int .i64 ty].toArray 48)).alloc (.cells [Value.string ⟨#[]⟩, Value.slice none 0 0, Value.int .i64 0].toArray 52)).alloc (.cells [Value.string nm, Value.slice none 0 0, Value.int .i64 ty].toArray 52)) w.heap.size [Value.string nm, Value.int .i64 x0, Value.int .i64 x1, Value.int .i64 x2, Value.int .i64 x3, Value.int .i64 ty] := ((Blk.new w [Value.string nm, Value.int .i64 x0, Value.int .i64 x1, Value.int .i64 x2, Value.int .i64 x3, Value.int .i64 ty] 48).old _ (by simp)).old _ (by simp only [alloc_size]; omega)
  have n1 : Blk (((w.alloc (.cells [Value.string nm, Value.int .i64 x0, Value.int .i64 x1, Value.int .i64 x2, Value.int .i64 x3, Value.int .i64 ty].toArray 48)).alloc (.cells [Value.string ⟨#[]⟩, Value.slice none 0 0, Value.int .i64 0].toArray 52)).alloc (.cells [Value.string nm, Value.slice none 0 0, Value.int .i64 ty].toArray 52)) (w.heap.size + 1) [Value.string ⟨#[]⟩, Value.slice none 0 0, Value.int .i64 0] := by
    have := (Blk.new (w.alloc (.cells [Value.string nm, Value.int .i64 x0, Value.int .i64 x1, Value.int .i64 x2, Value.int .i64 x3, Value.int .i64 ty].toArray 48)) [Value.string ⟨#[]⟩, Value.slice none 0 0, Value.int .i64 0] 52).old (.cells [Value.string nm, Value.slice none 0 0, Value.int .i64 ty].toArray 52) (by simp only [alloc_size]; omega)
    rw [alloc_size] at this
    exact this
  have n2 : Blk (((w.alloc (.cells [Value.string nm, Value.int .i64 x0, Value.int .i64 x1, Value.int .i64 x2, Value.int .i64 x3, Value.int .i64 ty].toArray 48)).alloc (.cells [Value.string ⟨#[]⟩, Value.slice none 0 0, Value.int .i64 0].toArray 52)).alloc (.cells [Value.string nm, Value.slice none 0 0, Value.int .i64 ty].toArray 52)) (w.heap.size + 1 + 1) [Value.string nm, Value.slice none 0 0, Value.int .i64 ty] := by
    have := Blk.new ((w.alloc (.cells [Value.string nm, Value.int .i64 x0, Value.int .i64 x1, Value.int .i64 x2, Value.int .i64 x3, Value.int .i64 ty].toArray 48)).alloc (.cells [Value.string ⟨#[]⟩, Value.slice none 0 0, Value.int .i64 0].toArray 52)) [Value.string nm, Value.slice none 0 0, Value.int .i64 ty] 52
    rw [alloc_size, alloc_size] at this
    exact this
  have hW : Below w.heap.size w (((w.alloc (.cells [Value.string nm, Value.int .i64 x0, Value.int .i64 x1, Value.int .i64 x2, Value.int .i64 x3, Value.int .i64 ty].toArray 48)).alloc (.cells [Value.string ⟨#[]⟩, Value.slice none 0 0, Value.int .i64 0].toArray 52)).alloc (.cells [Value.string nm, Value.slice none 0 0, Value.int .i64 ty].toArray 52)) := (((Below.refl _ w).alloc (Nat.le_refl _) _).alloc (by simp) _).alloc (by simp; omega) _
  go_enter Tryz.func15, Tryz.ntmps15
  go_wp2
  obtain ⟨W, hWW⟩ : ∃ W, W = (((w.alloc (.cells [Value.string nm, Value.int .i64 x0, Value.int .i64 x1, Value.int .i64 x2, Value.int .i64 x3, Value.int .i64 ty].toArray 48)).alloc (.cells [Value.string ⟨#[]⟩, Value.slice none 0 0, Value.int .i64 0].toArray 52)).alloc (.cells [Value.string nm, Value.slice none 0 0, Value.int .i64 ty].toArray 52)) := ⟨_, rfl⟩
  have hWs : W.heap.size = w.heap.size + 1 + 1 + 1 := by rw [hWW]; simp
  rw [← hWW] at n0 n1 n2 hW ⊢
  clear hWW
  have N1 := hide n1
  have N2 := hide n2
  have HW := hide hW
  have HWS := hide hWs
  clear n0 n1 n2 hW hWs
  go_loopw [5, 13] (fun _ i wr => ∃ (k : Nat) (v : Value), k ≤ 4 ∧ i = .int .i64 k ∧ Hid (wr.ownsRow W.heap.size 3 1 v (fl4 x0 x1 x2 x3 k).length ((fl4 x0 x1 x2 x3 k).map (Value.int .i64))) ∧ Hid (Blk wr (w.heap.size + 1 + 1) [.string nm, v, .int .i64 ty]) ∧ Hid (Below (w.heap.size + 1 + 1) W wr)) (fun _ i _ => 4 - (intOf i).toNat)
  case atStart => exact ⟨0, .slice none 0 0, Nat.zero_le _, rfl, hide (World.ownsRow_nil _ _ _ _), N2, hide (Below.refl _ _)⟩
  case round =>
    obtain ⟨k, v, hk, rfl, HROW, HBLK, HB⟩ := hrel
    obtain ⟨vs, cp, rfl⟩ := own_sliceN (unhide HROW)
    have HWR := hide ((unhide HW).trans ((unhide HB).mono (by omega)))
    have HSZ : Hid (w.heap.size + 1 + 1 + 1 ≤ wr.heap.size) := hide (by have := unhide HWS; have := (unhide HB).size; omega)
    by_cases hp : k < 4
    · have hk4 : k = 0 ∨ k = 1 ∨ k = 2 ∨ k = 3 := by omega
      clear hp hk
      rcases hk4 with rfl | rfl | rfl | rfl
      · have hix := fun W => run_idx4_0 x0 x1 x2 x3 W
        by_cases hz : x0 = 0
        · have hx : (x0 != 0) = false := by rw [hz]; rfl
          have HFL : Hid (fl4 x0 x1 x2 x3 1 = fl4 x0 x1 x2 x3 0) := hide (by rw [fl4_step x0 x1 x2 x3 0 (by omega)]; simp [hz])
          clear hz
          go_wp2
          go_roundw
          case rel => exact ⟨1, _, by omega, by go_num, hide (by rw [unhide HFL]; exact unhide HROW), HBLK, HB⟩
          case measure => simp [intOf]
        · have hx : (x0 != 0) = true := by simpa using hz
          have HFL : Hid (fl4 x0 x1 x2 x3 1 = fl4 x0 x1 x2 x3 0 ++ [x0]) := hide (by rw [fl4_step x0 x1 x2 x3 0 (by omega)]; simp [hz])
          have hlen := fl4_len x0 x1 x2 x3 0
          obtain ⟨M, hM⟩ : ∃ M, (fl4 x0 x1 x2 x3 0).length = M := ⟨_, rfl⟩
          rw [hM] at hlen
          have e1 := (unhide HBLK).cellAt (i := 1) rfl
          rw [hM] at e1
          have HMM := hide hM
          clear hz hM
          go_wp2_with (at_builtin; refine wpList_append_own _ rfl _ _ 50 rfl W.heap.size 3 i0 (.int .i64 0) 1 8 Tryz.underlying50 hi hz0 hz1 hz2 rfl (by decide) (.slice vs M cp) M ((fl4 x0 x1 x2 x3 0).map (Value.int .i64)) rfl (by have := (unhide HROW).alloc (.cells #[.int .i64 x0] 3); rw [unhide HMM] at this; exact this) ⟨wr.heap.size, 0, none⟩ 1 1 [.int .i64 x0] rfl rfl (one_newN wr (.int .i64 x0) 3) (by simp [Value.oneCell']) (by unfold maxLen; omega) (by omega) (by have := (unhide HB).size; simp; omega) ?_; intro v2 w3 hown2 hgrow2 _; obtain ⟨vs2, cp2, rfl⟩ := own_sliceN hown2; have hb3 : Below W.heap.size (wr.alloc (.cells #[.int .i64 x0] 3)) w3 := ((Below.refl _ _).grown hgrow2 (by have := (unhide HB).size; simp; omega) (fun q hq => (((unhide HROW).lt q (by rw [unhide HMM]; exact hq))).1)); have n3 : Blk w3 (w.heap.size + 1 + 1) [.string nm, .slice vs M cp, .int .i64 ty] := (by have := ((unhide HBLK).old (.cells #[.int .i64 x0] 3) (by have := unhide HSZ; omega)).below hb3 (by have := unhide HWS; omega); rw [unhide HMM] at this; exact this); have g1 := n3.cellAt (i := 1) rfl; have f1 := n3.2 1; have NN3 := hide n3; have HB3 := hide hb3; have HO3 := hide hown2; clear n3 hb3 hown2 hgrow2 e1)
          go_roundw
          case rel =>
            refine ⟨1, .slice vs2 (M + 1) cp2, by omega, by go_num, hide ?_, hide ((unhide NN3).set 1 (.slice vs2 (M + 1) cp2) (by simp)), hide ?_⟩
            · rw [unhide HFL, List.map_append, List.length_append, unhide HMM]
              exact own_setN (unhide HO3) (by have := unhide HWS; omega)
            · refine Below.setCell ?_ (p := ⟨w.heap.size + 1 + 1, 1, none⟩) (Nat.le_refl _) _
              exact (unhide HB).trans (((Below.refl _ wr).alloc (by have := unhide HSZ; omega) _).trans ((unhide HB3).mono (by have := unhide HWS; omega)))
          case measure => simp [intOf]
      · have hix := fun W => run_idx4_1 x0 x1 x2 x3 W
        by_cases hz : x1 = 0
        · have hx : (x1 != 0) = false := by rw [hz]; rfl
          have HFL : Hid (fl4 x0 x1 x2 x3 2 = fl4 x0 x1 x2 x3 1) := hide (by rw [fl4_step x0 x1 x2 x3 1 (by omega)]; simp [hz])
          clear hz
          go_wp2
          go_roundw
          case rel => exact ⟨2, _, by omega, by go_num, hide (by rw [unhide HFL]; exact unhide HROW), HBLK, HB⟩
          case measure => simp [intOf]
        · have hx : (x1 != 0) = true := by simpa using hz
          have HFL : Hid (fl4 x0 x1 x2 x3 2 = fl4 x0 x1 x2 x3 1 ++ [x1]) := hide (by rw [fl4_step x0 x1 x2 x3 1 (by omega)]; simp [hz])
          have hlen := fl4_len x0 x1 x2 x3 1
          obtain ⟨M, hM⟩ : ∃ M, (fl4 x0 x1 x2 x3 1).length = M := ⟨_, rfl⟩
          rw [hM] at hlen
          have e1 := (unhide HBLK).cellAt (i := 1) rfl
          rw [hM] at e1
          have HMM := hide hM
          clear hz hM
          go_wp2_with (at_builtin; refine wpList_append_own _ rfl _ _ 50 rfl W.heap.size 3 i0 (.int .i64 0) 1 8 Tryz.underlying50 hi hz0 hz1 hz2 rfl (by decide) (.slice vs M cp) M ((fl4 x0 x1 x2 x3 1).map (Value.int .i64)) rfl (by have := (unhide HROW).alloc (.cells #[.int .i64 x1] 3); rw [unhide HMM] at this; exact this) ⟨wr.heap.size, 0, none⟩ 1 1 [.int .i64 x1] rfl rfl (one_newN wr (.int .i64 x1) 3) (by simp [Value.oneCell']) (by unfold maxLen; omega) (by omega) (by have := (unhide HB).size; simp; omega) ?_; intro v2 w3 hown2 hgrow2 _; obtain ⟨vs2, cp2, rfl⟩ := own_sliceN hown2; have hb3 : Below W.heap.size (wr.alloc (.cells #[.int .i64 x1] 3)) w3 := ((Below.refl _ _).grown hgrow2 (by have := (unhide HB).size; simp; omega) (fun q hq => (((unhide HROW).lt q (by rw [unhide HMM]; exact hq))).1)); have n3 : Blk w3 (w.heap.size + 1 + 1) [.string nm, .slice vs M cp, .int .i64 ty] := (by have := ((unhide HBLK).old (.cells #[.int .i64 x1] 3) (by have := unhide HSZ; omega)).below hb3 (by have := unhide HWS; omega); rw [unhide HMM] at this; exact this); have g1 := n3.cellAt (i := 1) rfl; have f1 := n3.2 1; have NN3 := hide n3; have HB3 := hide hb3; have HO3 := hide hown2; clear n3 hb3 hown2 hgrow2 e1)
          go_roundw
          case rel =>
            refine ⟨2, .slice vs2 (M + 1) cp2, by omega, by go_num, hide ?_, hide ((unhide NN3).set 1 (.slice vs2 (M + 1) cp2) (by simp)), hide ?_⟩
            · rw [unhide HFL, List.map_append, List.length_append, unhide HMM]
              exact own_setN (unhide HO3) (by have := unhide HWS; omega)
            · refine Below.setCell ?_ (p := ⟨w.heap.size + 1 + 1, 1, none⟩) (Nat.le_refl _) _
              exact (unhide HB).trans (((Below.refl _ wr).alloc (by have := unhide HSZ; omega) _).trans ((unhide HB3).mono (by have := unhide HWS; omega)))
          case measure => simp [intOf]
      · have hix := fun W => run_idx4_2 x0 x1 x2 x3 W
        by_cases hz : x2 = 0
        · have hx : (x2 != 0) = false := by rw [hz]; rfl
          have HFL : Hid (fl4 x0 x1 x2 x3 3 = fl4 x0 x1 x2 x3 2) := hide (by rw [fl4_step x0 x1 x2 x3 2 (by omega)]; simp [hz])
          clear hz
          go_wp2
          go_roundw
          case rel => exact ⟨3, _, by omega, by go_num, hide (by rw [unhide HFL]; exact unhide HROW), HBLK, HB⟩
          case measure => simp [intOf]
        · have hx : (x2 != 0) = true := by simpa using hz
          have HFL : Hid (fl4 x0 x1 x2 x3 3 = fl4 x0 x1 x2 x3 2 ++ [x2]) := hide (by rw [fl4_step x0 x1 x2 x3 2 (by omega)]; simp [hz])
          have hlen := fl4_len x0 x1 x2 x3 2
          obtain ⟨M, hM⟩ : ∃ M, (fl4 x0 x1 x2 x3 2).length = M := ⟨_, rfl⟩
          rw [hM] at hlen
          have e1 := (unhide HBLK).cellAt (i := 1) rfl
          rw [hM] at e1
          have HMM := hide hM
          clear hz hM
          go_wp2_with (at_builtin; refine wpList_append_own _ rfl _ _ 50 rfl W.heap.size 3 i0 (.int .i64 0) 1 8 Tryz.underlying50 hi hz0 hz1 hz2 rfl (by decide) (.slice vs M cp) M ((fl4 x0 x1 x2 x3 2).map (Value.int .i64)) rfl (by have := (unhide HROW).alloc (.cells #[.int .i64 x2] 3); rw [unhide HMM] at this; exact this) ⟨wr.heap.size, 0, none⟩ 1 1 [.int .i64 x2] rfl rfl (one_newN wr (.int .i64 x2) 3) (by simp [Value.oneCell']) (by unfold maxLen; omega) (by omega) (by have := (unhide HB).size; simp; omega) ?_; intro v2 w3 hown2 hgrow2 _; obtain ⟨vs2, cp2, rfl⟩ := own_sliceN hown2; have hb3 : Below W.heap.size (wr.alloc (.cells #[.int .i64 x2] 3)) w3 := ((Below.refl _ _).grown hgrow2 (by have := (unhide HB).size; simp; omega) (fun q hq => (((unhide HROW).lt q (by rw [unhide HMM]; exact hq))).1)); have n3 : Blk w3 (w.heap.size + 1 + 1) [.string nm, .slice vs M cp, .int .i64 ty] := (by have := ((unhide HBLK).old (.cells #[.int .i64 x2] 3) (by have := unhide HSZ; omega)).below hb3 (by have := unhide HWS; omega); rw [unhide HMM] at this; exact this); have g1 := n3.cellAt (i := 1) rfl; have f1 := n3.2 1; have NN3 := hide n3; have HB3 := hide hb3; have HO3 := hide hown2; clear n3 hb3 hown2 hgrow2 e1)
          go_roundw
          case rel =>
            refine ⟨3, .slice vs2 (M + 1) cp2, by omega, by go_num, hide ?_, hide ((unhide NN3).set 1 (.slice vs2 (M + 1) cp2) (by simp)), hide ?_⟩
            · rw [unhide HFL, List.map_append, List.length_append, unhide HMM]
              exact own_setN (unhide HO3) (by have := unhide HWS; omega)
            · refine Below.setCell ?_ (p := ⟨w.heap.size + 1 + 1, 1, none⟩) (Nat.le_refl _) _
              exact (unhide HB).trans (((Below.refl _ wr).alloc (by have := unhide HSZ; omega) _).trans ((unhide HB3).mono (by have := unhide HWS; omega)))
          case measure => simp [intOf]
      · have hix := fun W => run_idx4_3 x0 x1 x2 x3 W
        by_cases hz : x3 = 0
        · have hx : (x3 != 0) = false := by rw [hz]; rfl
          have HFL : Hid (fl4 x0 x1 x2 x3 4 = fl4 x0 x1 x2 x3 3) := hide (by rw [fl4_step x0 x1 x2 x3 3 (by omega)]; simp [hz])
          clear hz
          go_wp2
          go_roundw
          case rel => exact ⟨4, _, by omega, by go_num, hide (by rw [unhide HFL]; exact unhide HROW), HBLK, HB⟩
          case measure => simp [intOf]
        · have hx : (x3 != 0) = true := by simpa using hz
          have HFL : Hid (fl4 x0 x1 x2 x3 4 = fl4 x0 x1 x2 x3 3 ++ [x3]) := hide (by rw [fl4_step x0 x1 x2 x3 3 (by omega)]; simp [hz])
          have hlen := fl4_len x0 x1 x2 x3 3
          obtain ⟨M, hM⟩ : ∃ M, (fl4 x0 x1 x2 x3 3).length = M := ⟨_, rfl⟩
          rw [hM] at hlen
          have e1 := (unhide HBLK).cellAt (i := 1) rfl
          rw [hM] at e1
          have HMM := hide hM
          clear hz hM
          go_wp2_with (at_builtin; refine wpList_append_own _ rfl _ _ 50 rfl W.heap.size 3 i0 (.int .i64 0) 1 8 Tryz.underlying50 hi hz0 hz1 hz2 rfl (by decide) (.slice vs M cp) M ((fl4 x0 x1 x2 x3 3).map (Value.int .i64)) rfl (by have := (unhide HROW).alloc (.cells #[.int .i64 x3] 3); rw [unhide HMM] at this; exact this) ⟨wr.heap.size, 0, none⟩ 1 1 [.int .i64 x3] rfl rfl (one_newN wr (.int .i64 x3) 3) (by simp [Value.oneCell']) (by unfold maxLen; omega) (by omega) (by have := (unhide HB).size; simp; omega) ?_; intro v2 w3 hown2 hgrow2 _; obtain ⟨vs2, cp2, rfl⟩ := own_sliceN hown2; have hb3 : Below W.heap.size (wr.alloc (.cells #[.int .i64 x3] 3)) w3 := ((Below.refl _ _).grown hgrow2 (by have := (unhide HB).size; simp; omega) (fun q hq => (((unhide HROW).lt q (by rw [unhide HMM]; exact hq))).1)); have n3 : Blk w3 (w.heap.size + 1 + 1) [.string nm, .slice vs M cp, .int .i64 ty] := (by have := ((unhide HBLK).old (.cells #[.int .i64 x3] 3) (by have := unhide HSZ; omega)).below hb3 (by have := unhide HWS; omega); rw [unhide HMM] at this; exact this); have g1 := n3.cellAt (i := 1) rfl; have f1 := n3.2 1; have NN3 := hide n3; have HB3 := hide hb3; have HO3 := hide hown2; clear n3 hb3 hown2 hgrow2 e1)
          go_roundw
          case rel =>
            refine ⟨4, .slice vs2 (M + 1) cp2, by omega, by go_num, hide ?_, hide ((unhide NN3).set 1 (.slice vs2 (M + 1) cp2) (by simp)), hide ?_⟩
            · rw [unhide HFL, List.map_append, List.length_append, unhide HMM]
              exact own_setN (unhide HO3) (by have := unhide HWS; omega)
            · refine Below.setCell ?_ (p := ⟨w.heap.size + 1 + 1, 1, none⟩) (Nat.le_refl _) _
              exact (unhide HB).trans (((Below.refl _ wr).alloc (by have := unhide HSZ; omega) _).trans ((unhide HB3).mono (by have := unhide HWS; omega)))
          case measure => simp [intOf]
    · have hek : k = 4 := by omega
      subst hek
      have HOI := hide (own_of_row (unhide HROW))
      have hlen := fl4_len x0 x1 x2 x3 4
      rw [unhide HZ4] at HOI hlen HBLK
      have e0 := (unhide HBLK).cellAt (i := 0) rfl
      have e1 := (unhide HBLK).cellAt (i := 1) rfl
      have e2 := (unhide HBLK).cellAt (i := 2) rfl
      have n1 := (unhide N1).below (unhide HB) (by omega)
      have q0 := n1.cellAt (i := 0) rfl
      have q1 := n1.cellAt (i := 1) rfl
      have q2 := n1.cellAt (i := 2) rfl
      have f0 := n1.2 0
      have f1 := n1.2 1
      have f2 := n1.2 2
      have N1R := hide n1
      clear n1
      go_wp2
      obtain ⟨F, hF⟩ : ∃ F, F = (((wr.setCell ⟨w.heap.size + 1, 0, none⟩ (.string nm)).setCell ⟨w.heap.size + 1, 1, none⟩ (.slice vs Z4.length cp)).setCell ⟨w.heap.size + 1, 2, none⟩ (.int .i64 ty)) := ⟨_, rfl⟩
      have hn := (((unhide N1R).set 0 (.string nm) (by simp)).set 1 (.slice vs Z4.length cp) (by simp)).set 2 (.int .i64 ty) (by simp)
      have hFB := (((Below.refl w.heap.size wr).setCell (p := ⟨w.heap.size + 1, 0, none⟩) (by simp) (.string nm)).setCell (p := ⟨w.heap.size + 1, 1, none⟩) (by simp) (.slice vs Z4.length cp)).setCell (p := ⟨w.heap.size + 1, 2, none⟩) (by simp) (.int .i64 ty)
      have hFO : ∀ b, w.heap.size + 2 ≤ b → F.heap[b]? = wr.heap[b]? := fun b hb => by rw [hF, Below.heap_setCell _ _ _ _ (by simp; omega), Below.heap_setCell _ _ _ _ (by simp; omega), Below.heap_setCell _ _ _ _ (by simp; omega)]
      have hFS : F.heap.size = wr.heap.size := by rw [hF]; simp [World.setCell]
      rw [← hF] at hn hFB ⊢
      have g0 := hn.cellAt (i := 0) rfl
      have g1 := hn.cellAt (i := 1) rfl
      have g2 := hn.cellAt (i := 2) rfl
      refine bodyPost_ret (v := .agg #[Value.string nm, Value.slice vs Z4.length cp, Value.int .i64 ty]) (by simp [results, Tryz.results15, go_sem, g0, g1, g2]) rfl ?_
      refine ⟨_, rfl, (unhide HOI).same (fun b hb hbn => ⟨fun j => World.cell?_of_block (w := wr) (a := ⟨b, j, none⟩) (hFO b (by have := unhide HWS; omega)), fun j => World.frozen?_of_block (w := wr) (a := ⟨b, j, none⟩) (hFO b (by have := unhide HWS; omega))⟩) (by have := unhide HWS; omega) (by omega), (unhide HWR).trans hFB⟩
end Go.Proofs.YtffabnmgcicpiaaGreat
