/- The walks of slices.Grow, slices.Concat and meanJoin. Conditions: the values can be read. -/
import Derived.Test.YtjnahhalgckggaaAm
import Derived.Lib.AppendZerosOnto
namespace Go.Proofs.Ytjnahhalgckggaa
open Go.RowKit Go.PlainAid

theorem wpList_run2 {P : Program} {w : World} {ops : Array Oper} {rest : List Oper} {o : Oper} {a : Act} {Q : Exit → Act → World → Prop} (hgd : o.guard = none) (s x : Operand) (t t2 : TypeId)
    (ho : o.op = .call { callee := .builtin .append, args := #[s, x], argTypes := #[t, t2] }) (hty : o.type = t) (v y : Value) (hs : a.eval s = v) (hx : a.eval x = y) (v' : Value) (w' : World) (hr : (Builtin.append_ #[t, t2] t #[v, y]).run P w = .ok v' w') (h : wpList P ops Q rest (a.put o.dst v') w') : wpList P ops Q (o :: rest) a w :=
  wpList_plain hgd fun _ hK => by
    unfold Oper.wp execOp
    simp only [ho, hty, resolve, invoke, builtin, Sem.run_bind, Sem.run_pure, Result.andThen_ok, List.map_toArray, List.map_cons, List.map_nil, hs, hx, hr]
    exact hK _ _ h
set_option maxRecDepth 100000 in
set_option maxHeartbeats 2000000 in
theorem grow_any (n : Nat) (hn : n ≤ 32) (w : World) : Calls Try.prog 71 #[.slice none 0 0, .int .i64 n] w fun e w' => ∃ v, e = .returned v ∧ OwnR w' w.heap.size v [] ∧ Below w.heap.size w w' := by
  by_cases h0 : n = 0
  · subst h0
    go_enter Try.func71, Try.ntmps71
    go_wp2
    go_ret
    exact ⟨_, rfl, OwnR.nil _ _, Below.refl _ _⟩
  obtain ⟨i0, hi, hz0, hz1, hz2⟩ := info_parts intinfo
  have r1 := Go.Lib.run_append_grow_zeros (P := Try.prog) w 26 3 26 3 i0 (.int .i64 0) .i64 .i64 Try.underlying26 Try.underlying3 hi hz0 none 0 0 [] (run_firstCells_none _ _ _ _ _) n (by omega) (by omega) (by omega) (by omega) (by rw [hz2]; omega) (growslice_fits (by omega) (by rw [hz2]; omega))
  rw [Nat.zero_add] at r1
  have hcap := grownCap_ge w n 0 3
  have hcap2 := grownCap_le_maxLen w n 0 3 (by unfold maxLen; omega)
  obtain ⟨c2, hc2⟩ : ∃ c, grownCap w n 0 3 = c := ⟨_, rfl⟩
  rw [hc2] at r1 hcap hcap2
  have O : Hid (OwnR (w.drew.alloc (.cells (([] : List Value).toArray ++ Builtin.zeroCells (Value.int .i64 0).cells n ++ Builtin.zeroCells (Value.int .i64 0).cells (c2 - n)) 3)) w.heap.size (.slice (some ⟨w.heap.size, 0, none⟩) 0 c2) []) := hide (by
    refine World.ownsRow_made w.drew _ c2 (Nat.le_refl _) hcap2 ?_
    rw [Array.size_append, Array.size_append, size_zeroCells, size_zeroCells]
    have : (Value.int .i64 0).cells.size = 1 := rfl
    rw [this]
    simp
    omega)
  obtain ⟨cur, hcur⟩ : ∃ cur, ([] : List Value).toArray ++ Builtin.zeroCells (Value.int .i64 0).cells n ++ Builtin.zeroCells (Value.int .i64 0).cells (c2 - n) = cur := ⟨_, rfl⟩
  rw [hcur] at r1 O
  clear hcur hc2
  unfold maxLen at hcap2
  go_enter Try.func71, Try.ntmps71
  go_wp2_with (at_builtin; refine wpList_run2 rfl (.tmp 20) (.tmp 21) 26 3 rfl rfl (.slice none 0 0) (.int .i64 n) rfl rfl _ _ r1 ?_)
  go_ret
  exact ⟨_, rfl, unhide O, (Below.refl _ _).drew.alloc (Nat.le_refl _) _⟩

set_option maxRecDepth 100000 in
set_option maxHeartbeats 4000000 in
theorem concat_any (lo sb cap : Nat) (a0 a1 : Option Addr) (c0 c1 : Nat) (xs ys : List Int) (w : World) (hsb : sb < w.heap.size) (h0 : w.cell? ⟨sb, 0, none⟩ = some (.slice a0 xs.length c0)) (h1 : w.cell? ⟨sb, 1, none⟩ = some (.slice a1 ys.length c1)) (hx : IsInts w lo w.heap.size a0 xs) (hy : IsInts w lo w.heap.size a1 ys) (hl : xs.length + ys.length ≤ 16) :
    Calls Try.prog 68 #[.slice (some ⟨sb, 0, none⟩) 2 cap] w fun e w' => ∃ v, e = .returned v ∧ OwnI w' w.heap.size w'.heap.size v (xs ++ ys) ∧ Below w.heap.size w w' := by
  have HX := hide hx
  have HY := hide hy
  obtain ⟨X, hX⟩ : ∃ X, xs.length = X := ⟨_, rfl⟩
  obtain ⟨Y, hY⟩ : ∃ Y, ys.length = Y := ⟨_, rfl⟩
  rw [hX] at h0 hl
  rw [hY] at h1 hl
  have HLX := hide hX
  have HLY := hide hY
  have HG := hide (fun W => grow_any (X + Y) (by omega) W)
  clear hx hy hX hY
  go_enter Try.func68, Try.ntmps68
  go_wp2
  go_loopw [3, 5, 11] (fun sz sl i wr => w = wr ∧ ((i = .int .i64 0 ∧ sz = .int .i64 0) ∨ (i = .int .i64 1 ∧ sz = .int .i64 X) ∨ (i = .int .i64 2 ∧ sz = .int .i64 ((X + Y : Nat) : Int)))) (fun _ _ i _ => 2 - (intOf i).toNat)
  case atStart => exact ⟨rfl, .inl ⟨rfl, rfl⟩⟩
  case round =>
    obtain ⟨rfl, hrel⟩ := hrel
    rcases hrel with ⟨rfl, rfl⟩ | ⟨rfl, rfl⟩ | ⟨rfl, rfl⟩
    · go_wp2
      go_roundw
      case rel => refine ⟨trivial, .inr (.inl ⟨?_, ?_⟩)⟩ <;> first | rfl | go_num
      case measure => simp [intOf]
    · go_wp2
      go_roundw
      case rel => refine ⟨trivial, .inr (.inr ⟨?_, ?_⟩)⟩ <;> first | rfl | go_num
      case measure => simp [intOf]
    · go_wp2_with fail
      refine (unhide HG _).mono ?_
      rintro r w1 ⟨v, rfl, ho, hb1⟩
      have HO := hide ho
      have HB1 := hide hb1
      have HS1 := hide hb1.size
      clear ho hb1
      go_wp2
      go_loopw [6, 8, 27] (fun nv sl i wr => Hid (Below w.heap.size w wr) ∧ ((i = .int .i64 0 ∧ Hid (OwnR wr w.heap.size nv [])) ∨ (i = .int .i64 1 ∧ Hid (OwnR wr w.heap.size nv xs)) ∨ (i = .int .i64 2 ∧ Hid (OwnR wr w.heap.size nv (xs ++ ys))))) (fun _ _ i _ => 2 - (intOf i).toNat)
      case atStart => exact ⟨HB1, .inl ⟨rfl, HO⟩⟩
      case round =>
        obtain ⟨HB, hrel⟩ := hrel
        rcases hrel with ⟨rfl, HN⟩ | ⟨rfl, HN⟩ | ⟨rfl, HN⟩
        · have g0 := ((unhide HB).cell (p := ⟨sb, 0, none⟩) hsb).trans h0
          obtain ⟨v2, X2, r2, o2, y2⟩ := run_app_any wr w.heap.size _ [] xs (unhide HN) (unhide HB).size a0 c0 lo w.heap.size ((unhide HX).kept (unhide HB) (Nat.le_refl _)) (by have : ([] : List Int).length = 0 := rfl; have := unhide HLX; omega)
          have HB2 := hide ((unhide HB).trans (grown_below y2 (unhide HB).size (OwnR.block (unhide HN))))
          rw [List.nil_append] at o2
          have HO2 := hide o2
          rw [unhide HLX] at r2
          clear o2 y2
          go_wp2_with (at_builtin; refine wpList_run rfl (.tmp 31) (.tmp 32) 26 rfl rfl _ (.slice a0 X c0) rfl rfl v2 X2 r2 ?_)
          go_roundw
          case rel => exact ⟨HB2, .inr (.inl ⟨by first | rfl | go_num, HO2⟩)⟩
          case measure => simp [intOf]
        · have g0 := ((unhide HB).cell (p := ⟨sb, 1, none⟩) hsb).trans h1
          obtain ⟨v2, X2, r2, o2, y2⟩ := run_app_any wr w.heap.size _ xs ys (unhide HN) (unhide HB).size a1 c1 lo w.heap.size ((unhide HY).kept (unhide HB) (Nat.le_refl _)) (by have := unhide HLX; have := unhide HLY; omega)
          have HB2 := hide ((unhide HB).trans (grown_below y2 (unhide HB).size (OwnR.block (unhide HN))))
          have HO2 := hide o2
          rw [unhide HLY] at r2
          clear o2 y2
          go_wp2_with (at_builtin; refine wpList_run rfl (.tmp 31) (.tmp 32) 26 rfl rfl _ (.slice a1 Y c1) rfl rfl v2 X2 r2 ?_)
          go_roundw
          case rel => exact ⟨HB2, .inr (.inr ⟨by first | rfl | go_num, HO2⟩)⟩
          case measure => simp [intOf]
        · go_wp2
          go_ret
          exact ⟨_, rfl, (unhide HN).own, unhide HB⟩

set_option maxRecDepth 100000 in
set_option maxHeartbeats 4000000 in
theorem meanJoin_any (lo b off cap : Nat) (x y : MV) (w : World) (hx : CellsMv w lo b off x) (hy : CellsMv w lo b (off + 3) y) (hb : b < w.heap.size) : Calls Try.prog 59 #[.slice (some ⟨b, off, none⟩) 2 cap] w fun e w' => PPost (if 16 < x.row.length + y.row.length then (⟨0, 0, []⟩, 3) else (⟨3, 0, x.row ++ y.row⟩, 0)) w e w' := by
  obtain ⟨a0, c0, p0, p1, p2, p3, p4⟩ := hx
  obtain ⟨a1, c1, s0, s1, s2, s3, s4⟩ := hy
  obtain ⟨R, hR⟩ : ∃ R, (if 16 < x.row.length + y.row.length then ((⟨0, 0, []⟩ : MV), (3 : Int)) else (⟨3, 0, x.row ++ y.row⟩, 0)) = R := ⟨_, rfl⟩
  rw [hR]
  clear p0 p1 s0 s1
  by_cases h16 : 16 < x.row.length + y.row.length
  · have HX : Hid (R = (⟨0, 0, []⟩, 3)) := hide (by rw [← hR, if_pos h16])
    obtain ⟨L0, hL0⟩ : ∃ L, x.row.length = L := ⟨_, rfl⟩
    obtain ⟨L1, hL1⟩ : ∃ L, y.row.length = L := ⟨_, rfl⟩
    rw [hL0] at p2 p3 h16
    rw [hL1] at s2 s3 h16
    clear p4 s4 hR
    go_enter Try.func59, Try.ntmps59
    go_wp2
    try go_region
    go_wp2
    refine bodyPost_ret (v := .tuple #[mv0 0 0, .int .i64 3]) (by simp [results, Try.results59, go_sem]) rfl ?_
    rw [unhide HX]
    exact .plain (below_new _ _).drew
  · have HX : Hid (R = (⟨3, 0, x.row ++ y.row⟩, 0)) := hide (by rw [← hR, if_neg h16])
    have HCC := hide (fun (sb : Nat) (W : World) (hw : Below w.heap.size w W) (hsb : sb < W.heap.size) h0 h1 => concat_any lo sb 2 a0 a1 c0 c1 x.row y.row W hsb h0 h1 (p4.kept hw hw.size) (s4.kept hw hw.size) (by omega))
    have eXY : (x.row ++ y.row).length = x.row.length + y.row.length := List.length_append
    obtain ⟨L0, hL0⟩ : ∃ L, x.row.length = L := ⟨_, rfl⟩
    obtain ⟨L1, hL1⟩ : ∃ L, y.row.length = L := ⟨_, rfl⟩
    rw [hL0] at p2 p3 h16 HCC eXY
    rw [hL1] at s2 s3 h16 HCC eXY
    clear p4 s4 hR
    have HE := hide eXY
    clear eXY
    go_enter Try.func59, Try.ntmps59
    go_wp2
    try go_region
    go_wp2_with fail
    obtain ⟨W, hW⟩ : ∃ W, W = ((w.alloc (.cells #[Value.int .i64 0, Value.int .i64 0, Value.slice none 0 0] 28)).alloc (.cells #[Value.slice a0 L0 c0, Value.slice a1 L1 c1] 26)).drew := ⟨_, rfl⟩
    have bW : Below w.heap.size w W := by rw [hW]; exact (((Below.refl _ w).alloc (Nat.le_refl _) _).alloc (by simp) _).drew
    have kW : Blk W w.heap.size [Value.int .i64 0, Value.int .i64 0, Value.slice none 0 0] := by rw [hW]; exact ((Blk.new w [Value.int .i64 0, Value.int .i64 0, Value.slice none 0 0] 28).old _ (by simp)).below (Below.refl (w.heap.size + 1) _).drew (by omega)
    have sW : W.heap.size = w.heap.size + 2 := by rw [hW]; simp
    have g0 : W.cell? ⟨w.heap.size + 1, 0, none⟩ = some (.slice a0 L0 c0) := by
      rw [hW]; have := alloc_cell (w.alloc (.cells #[Value.int .i64 0, Value.int .i64 0, Value.slice none 0 0] 28)).drew #[Value.slice a0 L0 c0, Value.slice a1 L1 c1] 26 0
      have e : (w.alloc (.cells #[Value.int .i64 0, Value.int .i64 0, Value.slice none 0 0] 28)).drew.heap.size = w.heap.size + 1 := by simp
      rw [e] at this
      exact this
    have g1 : W.cell? ⟨w.heap.size + 1, 1, none⟩ = some (.slice a1 L1 c1) := by
      rw [hW]; have := alloc_cell (w.alloc (.cells #[Value.int .i64 0, Value.int .i64 0, Value.slice none 0 0] 28)).drew #[Value.slice a0 L0 c0, Value.slice a1 L1 c1] 26 1
      have e : (w.alloc (.cells #[Value.int .i64 0, Value.int .i64 0, Value.slice none 0 0] 28)).drew.heap.size = w.heap.size + 1 := by simp
      rw [e] at this
      exact this
    rw [← hW]
    refine (unhide HCC (w.heap.size + 1) W bW (by omega) g0 g1).mono ?_
    rintro r w1 ⟨v, rfl, ho, hb1⟩
    obtain ⟨a2, c2, rfl⟩ := ho.form
    rw [unhide HE] at ho ⊢
    have HO := hide ho
    have HBW := hide (bW.trans (hb1.mono bW.size))
    have HKK := hide (kW.below hb1 (by omega))
    have HS1 : Hid (w.heap.size + 1 ≤ w1.heap.size) := hide (by have := hb1.size; omega)
    have HSW := hide sW
    clear ho hb1 bW kW g0 g1 hW
    go_wp2_with fail
    refine (meanRow_any a2 (L0 + L1) c2 _).mono ?_
    rintro r w2 ⟨rfl, hb2⟩
    have hblk := (unhide HKK).below hb2 (unhide HS1)
    have q0 := hblk.cellAt (i := 0) rfl
    have q1 := hblk.cellAt (i := 1) rfl
    have q2 := hblk.cellAt (i := 2) rfl
    have f0 := hblk.2 0
    have f1 := hblk.2 1
    have f2 := hblk.2 2
    have HBLK := hide hblk
    have HBB := hide ((unhide HBW).trans (hb2.mono (unhide HBW).size))
    have OW := hide ((unhide HO).kept hb2 hb2.size)
    clear hblk hb2
    go_wp2
    have hn := (((unhide HBLK).set 0 (.int .i64 3) (by simp)).set 1 (.int .i64 0) (by simp)).set 2 (.slice a2 (L0 + L1) c2) (by simp)
    have hFB := (((unhide HBB).setCell (p := ⟨w.heap.size, 0, none⟩) (Nat.le_refl _) (.int .i64 3)).setCell (p := ⟨w.heap.size, 1, none⟩) (Nat.le_refl _) (.int .i64 0)).setCell (p := ⟨w.heap.size, 2, none⟩) (Nat.le_refl _) (.slice a2 (L0 + L1) c2)
    obtain ⟨FW, hF⟩ : ∃ FW, FW = ((w2.setCell ⟨w.heap.size, 0, none⟩ (.int .i64 3)).setCell ⟨w.heap.size, 1, none⟩ (.int .i64 0)).setCell ⟨w.heap.size, 2, none⟩ (.slice a2 (L0 + L1) c2) := ⟨_, rfl⟩
    rw [← hF] at hn hFB ⊢
    have g0 := hn.cellAt (i := 0) rfl
    have g1 := hn.cellAt (i := 1) rfl
    have g2 := hn.cellAt (i := 2) rfl
    refine bodyPost_ret (v := .tuple #[.agg #[.int .i64 3, .int .i64 0, .slice a2 (L0 + L1) c2], .int .i64 0]) (by simp [results, Try.results59, go_sem, g0, g1, g2]) rfl ?_
    rw [unhide HX]
    refine ⟨_, rfl, ?_, hFB⟩
    rw [hF]
    have hlt : w.heap.size < W.heap.size := by rw [unhide HSW]; omega
    exact (((((unhide OW).setE hlt).setE hlt).setE hlt).same (fun _ _ _ => ⟨fun _ => rfl, fun _ => rfl⟩) (Nat.le_of_lt hlt) (by simp [World.setCell]))
end Go.Proofs.Ytjnahhalgckggaa
