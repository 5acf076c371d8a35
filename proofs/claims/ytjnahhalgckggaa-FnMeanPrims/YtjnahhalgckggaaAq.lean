/- The walks of slices.EqualFunc at values and kinds, meanFit, of and impl.MeanPrim. Conditions: the values can be read. -/
import Derived.Test.YtjnahhalgckggaaAp
namespace Go.Proofs.Ytjnahhalgckggaa
open Go.RowKit Go.PlainAid

set_option maxHeartbeats 1000000 in
theorem fit1_any (k n : Int) (sa : Option Addr) (sl sc : Nat) (kd : Int) (w : World) : Calls Try.prog 70 #[.agg #[.int .i64 k, .int .i64 n, .slice sa sl sc], .int .i64 kd] w fun e w' => e = .returned (.bool (k == kd)) ∧ Below w.heap.size w w' := by
  go_enter Try.func70, Try.ntmps70
  go_wp2
  go_ret
  exact ⟨rfl, below_new _ _⟩

set_option maxRecDepth 100000 in
set_option maxHeartbeats 4000000 in
theorem equalFunc_any (lo lo2 : Nat) (a a2 : Option Addr) (cap cap2 : Nat) (xs : List MV) (zs : List Int) (w : World) (h : Mvs w lo a xs) (hi : IsInts w lo2 w.heap.size a2 zs) (hl : xs.length ≤ 1048576) (hl2 : zs.length ≤ 3) :
    Calls Try.prog 69 #[.slice a xs.length cap, .slice a2 zs.length cap2, FV 70] w fun e w' => e = .returned (.bool (decide (xs.map MV.kind = zs))) ∧ Below w.heap.size w w' := by
  obtain ⟨R, hR⟩ : ∃ R, decide (xs.map MV.kind = zs) = R := ⟨_, rfl⟩
  rw [hR]
  have hcf : ∀ (x0 x1 : Value) (W : World), (callFunc 70 #[x0, x1]).run Try.prog W = .ok (.enter 70 #[x0, x1]) W := fun _ _ _ => by kernel_rfl
  by_cases hln : xs.length = zs.length
  · have HYES : Hid ((∀ k (hk : k < xs.length) (hk2 : k < zs.length), xs[k].kind = zs[k]) → R = true) := hide (fun hh => by
      rw [← hR]
      refine decide_eq_true (List.ext_getElem (by simpa using hln) (fun k h1 h2 => ?_))
      rw [List.getElem_map]
      exact hh k (by simpa using h1) h2)
    have HNO : Hid (∀ k (hk : k < xs.length) (hk2 : k < zs.length), xs[k].kind ≠ zs[k] → R = false) := hide (fun k hk hk2 hne => by
      rw [← hR]
      refine decide_eq_false (fun e => hne ?_)
      have : (xs.map MV.kind)[k]'(by simpa using hk) = zs[k] := by simp only [e]
      rw [← this, List.getElem_map])
    rw [← hln] at hl2 ⊢
    have HK := hide h
    have HI := hide hi
    have hq : ((xs.length : Int) != (xs.length : Int)) = false := by simp
    have HLN := hide hln
    clear h hi hR hln
    go_enter Try.func69, Try.ntmps69
    go_wp2
    go_loopw [7, 8, 9, 17] (fun _ _ _ i wr => ∃ k : Nat, k ≤ xs.length ∧ i = .int .i64 k ∧ Hid (Below w.heap.size w wr) ∧ Hid (∀ j (hj : j < xs.length) (hj2 : j < zs.length), j < k → xs[j].kind = zs[j])) (fun _ _ _ i _ => xs.length - (intOf i).toNat)
    case atStart => exact ⟨0, Nat.zero_le _, rfl, hide (Below.refl _ _), hide (fun j _ _ hj => absurd hj (Nat.not_lt_zero _))⟩
    case round =>
      obtain ⟨k, hk, rfl, HB, HD⟩ := hrel
      by_cases hp : k < xs.length
      · obtain ⟨b, off, rfl, hbn, hcs⟩ := ((unhide HK).kept (unhide HB)).cells (by intro e; rw [e] at hp; simp at hp)
        obtain ⟨aa, ca, d0, d1, d2, d3, d4⟩ := hcs k hp
        rcases (unhide HI).kept (unhide HB) (Nat.le_refl _) with hq0 | ⟨bb, oo, rfl, hbl2, hbn2, hcs2⟩
        · have hln := unhide HLN; rw [hq0] at hln; simp at hln; rw [hln] at hp; simp at hp
        have hpz : k < zs.length := by rw [← unhide HLN]; exact hp
        have hc2 := hcs2 k hpz
        have hbn3 : bb < wr.heap.size := Nat.lt_of_lt_of_le hbn2 (unhide HB).size
        have HNK := hide (unhide HNO k hp hpz)
        obtain ⟨x, hx⟩ : ∃ x, xs[k].kind = x := ⟨_, rfl⟩
        obtain ⟨nu, hnu⟩ : ∃ x, xs[k].num = x := ⟨_, rfl⟩
        obtain ⟨rl, hrl⟩ : ∃ x, xs[k].row.length = x := ⟨_, rfl⟩
        obtain ⟨y, hy⟩ : ∃ y, zs[k]'hpz = y := ⟨_, rfl⟩
        rw [hx] at d0 HNK
        rw [hnu] at d1
        rw [hrl] at d2
        rw [hy] at hc2 HNK
        clear hcs hcs2 d3 d4 hnu hrl
        have HXY := hide (And.intro hx hy)
        clear hx hy
        go_wp2_with fail
        refine (fit1_any x nu aa rl ca y _).mono ?_
        rintro r w2 ⟨rfl, hb2⟩
        have HB2 := hide ((unhide HB).trans (((below_new wr _).trans (hb2.mono (by simp))).mono (unhide HB).size))
        clear hb2
        by_cases hxy : x = y
        · subst hxy
          have he : (x == x) = true := by simp
          rw [he]
          clear HNK
          go_wp2
          go_roundw
          case rel =>
            refine ⟨k + 1, by omega, by go_num, HB2, hide (fun j hj hj2 hjk => ?_)⟩
            by_cases e : j = k
            · subst e
              rw [(unhide HXY).1]
              exact (unhide HXY).2.symm
            · exact unhide HD j hj hj2 (by omega)
          case measure => simp [intOf]; omega
        · have he : (x == y) = false := by simpa using hxy
          rw [he]
          have HX := hide (unhide HNK hxy)
          go_wp2
          go_ret
          exact ⟨ret_bool (unhide HX).symm, unhide HB2⟩
      · have HX : Hid (R = true) := hide (unhide HYES (fun k' hk' hk2 => unhide HD k' hk' hk2 (by omega)))
        go_wp2
        go_ret
        exact ⟨ret_bool (unhide HX).symm, unhide HB⟩
  · have HX : Hid (R = false) := hide (by
      rw [← hR]
      refine decide_eq_false (fun e => hln ?_)
      rw [← e]; simp)
    have hq : ((xs.length : Int) != (zs.length : Int)) = true := by simp; omega
    clear h hi hR
    go_enter Try.func69, Try.ntmps69
    go_wp2
    go_ret
    exact ⟨ret_bool (unhide HX).symm, Below.refl _ _⟩

set_option maxHeartbeats 1000000 in
theorem meanFit_any (lo lo2 : Nat) (a a2 : Option Addr) (cap cap2 : Nat) (xs : List MV) (zs : List Int) (w : World) (h : Mvs w lo a xs) (hi : IsInts w lo2 w.heap.size a2 zs) (hl : xs.length ≤ 1048576) (hl2 : zs.length ≤ 3) :
    Calls Try.prog 61 #[.slice a xs.length cap, .slice a2 zs.length cap2] w fun e w' => e = .returned (.bool (decide (xs.map MV.kind = zs))) ∧ Below w.heap.size w w' := by
  have HE := hide (equalFunc_any lo lo2 a a2 cap cap2 xs zs w h hi hl hl2)
  obtain ⟨R, hR⟩ : ∃ R, decide (xs.map MV.kind = zs) = R := ⟨_, rfl⟩
  rw [hR] at HE ⊢
  clear h hi hR
  go_enter Try.func61, Try.ntmps61
  go_wp2_with fail
  refine (unhide HE).mono ?_
  rintro r w2 ⟨rfl, hb2⟩
  have HB := hide hb2
  clear hb2 HE
  go_wp2
  go_ret
  exact ⟨rfl, unhide HB⟩

set_option maxRecDepth 100000 in
set_option maxHeartbeats 4000000 in
theorem of_any (b : Nat) (s : ByteArray) (hs : s.size ≤ 1048576) (lo : Nat) (a : Option Addr) (cap : Nat) (xs : List MV) (w : World) (hP : Prims w b) (h : Mvs w lo a xs) (hl : xs.length ≤ 1048576) :
    Calls Try.prog 27 #[.map (some b), .string s, .slice a xs.length cap] w fun e w' => PPost (meanR (primN s.toList) xs) w e w' := by
  obtain ⟨L, hpm, hL⟩ := hP
  have hlook := fun (W : World) (hb : Below w.heap.size w W) => (hpm.block (hb.block b hpm.lt)).look s (by unfold maxLen; omega)
  have hlk := hlook (w.alloc (.cells #[Value.int .i64 0, Value.int .i64 0, Value.slice none 0 0] 28)) (below_new _ _)
  have HT := hide (fun W => TypePrimI_any s W)
  obtain ⟨h0, h1⟩ := hL s.toList
  obtain ⟨n, hn⟩ : ∃ n, primN s.toList = n := ⟨_, rfl⟩
  rw [hn] at HT h0 h1 ⊢
  have HFIT := hide (fun (a2 : Option Addr) (cap2 lo2 : Nat) (W : World) (hb : Below w.heap.size w W) (hi : IsInts W lo2 W.heap.size a2 (tpArgs n)) => meanFit_any lo lo2 a a2 cap cap2 xs (tpArgs n) W (h.kept hb) hi hl (tpArgs_len n))
  have hargs := tpArgs_len n
  clear hlook hpm hL hn
  by_cases hn0 : n = 0
  · rw [h0 hn0] at hlk
    have HX : Hid (meanR n xs = (⟨0, 0, []⟩, -1)) := hide (by unfold meanR fitB; simp [hn0])
    obtain ⟨R, hR⟩ : ∃ R, meanR n xs = R := ⟨_, rfl⟩
    rw [hR] at HX ⊢
    obtain ⟨A, hA⟩ : ∃ A, (tpArgs n).length = A := ⟨_, rfl⟩
    clear h0 h1 hn0 h
    have hlk2 : (Instr.lookup 54 (.map (some b)) (.string s) true).run Try.prog (w.alloc (.cells #[Value.int .i64 0, Value.int .i64 0, Value.slice none 0 0] 28)) = .ok (.tuple #[.nilFunc, .bool false]) (w.alloc (.cells #[Value.int .i64 0, Value.int .i64 0, Value.slice none 0 0] 28)) := hlk
    clear hlk
    go_enter Try.func27, Try.ntmps27
    go_wp2_with fail
    refine (unhide HT _).mono ?_
    rintro r w2 ⟨u, rfl, ho, hb2⟩
    obtain ⟨ua, uc, rfl⟩ := ho.form
    have hblk : Blk w2 w.heap.size [Value.int .i64 0, Value.int .i64 0, Value.slice none 0 0] := (Blk.new w [Value.int .i64 0, Value.int .i64 0, Value.slice none 0 0] 28).below hb2 (by simp)
    have HBB := hide ((below_new w _).trans (hb2.mono (by simp)))
    have q0 := hblk.cellAt (i := 0) rfl
    have q1 := hblk.cellAt (i := 1) rfl
    have q2 := hblk.cellAt (i := 2) rfl
    have f0 := hblk.2 0
    have f1 := hblk.2 1
    have f2 := hblk.2 2
    have HBLK := hide hblk
    clear hblk hb2
    clear ho
    rw [hA]
    go_wp2
    have hn := (((unhide HBLK).set 0 (.int .i64 0) (by simp)).set 1 (.int .i64 0) (by simp)).set 2 (.slice none 0 0) (by simp)
    have hFB := (((unhide HBB).setCell (p := ⟨w.heap.size, 0, none⟩) (Nat.le_refl _) (.int .i64 0)).setCell (p := ⟨w.heap.size, 1, none⟩) (Nat.le_refl _) (.int .i64 0)).setCell (p := ⟨w.heap.size, 2, none⟩) (Nat.le_refl _) (.slice none 0 0)
    obtain ⟨FW, hF⟩ : ∃ FW, FW = ((w2.setCell ⟨w.heap.size, 0, none⟩ (.int .i64 0)).setCell ⟨w.heap.size, 1, none⟩ (.int .i64 0)).setCell ⟨w.heap.size, 2, none⟩ (.slice none 0 0) := ⟨_, rfl⟩
    rw [← hF] at hn hFB ⊢
    have g0 := hn.cellAt (i := 0) rfl
    have g1 := hn.cellAt (i := 1) rfl
    have g2 := hn.cellAt (i := 2) rfl
    refine bodyPost_ret (v := .tuple #[.agg #[.int .i64 0, .int .i64 0, .slice none 0 0], .int .i64 (-1)]) (by simp [results, Try.results27, go_sem, g0, g1, g2]) rfl ?_
    rw [unhide HX]
    exact .plain hFB
  · obtain ⟨v, hv, hact⟩ := h1 hn0
    rw [hv] at hlk
    have hlk2 : (Instr.lookup 54 (.map (some b)) (.string s) true).run Try.prog (w.alloc (.cells #[Value.int .i64 0, Value.int .i64 0, Value.slice none 0 0] 28)) = .ok (.tuple #[v, .bool true]) (w.alloc (.cells #[Value.int .i64 0, Value.int .i64 0, Value.slice none 0 0] 28)) := hlk
    have HX : Hid (meanR n xs = if decide (xs.map MV.kind = tpArgs n) then primR n xs else (⟨0, 0, []⟩, -1)) := hide (by unfold meanR fitB; simp [hn0])
    have HFB : Hid (decide (xs.map MV.kind = tpArgs n) = true → fitB n xs = true) := hide (fun h => by unfold fitB; simp [hn0]; simpa using h)
    obtain ⟨R, hR⟩ : ∃ R, meanR n xs = R := ⟨_, rfl⟩
    rw [hR] at HX ⊢
    obtain ⟨fb, hfb⟩ : ∃ t, decide (xs.map MV.kind = tpArgs n) = t := ⟨_, rfl⟩
    rw [hfb] at HFIT HX HFB
    have HM := hide h
    clear hlk h0 h1 hv hR hfb h
    rcases hact with ⟨f, rfl, hcf, hact⟩ | ⟨f, p, rfl, hcf, hact⟩
    · have HACT := hide hact
      clear hact
      go_enter Try.func27, Try.ntmps27
      go_wp2_with fail
      refine (unhide HT _).mono ?_
      rintro r w2 ⟨u, rfl, ho, hb2⟩
      obtain ⟨ua, uc, rfl, hui⟩ := ho.ints
      have HBW := hide ((below_new w _).trans (hb2.mono (by simp)))
      have HKK := hide ((Blk.new w [Value.int .i64 0, Value.int .i64 0, Value.slice none 0 0] 28).below hb2 (by simp))
      have HS1 : Hid (w.heap.size + 1 ≤ w2.heap.size) := hide (by have := hb2.size; rw [alloc_size] at this; exact this)
      have HI := hide hui
      clear ho hb2 hui
      go_wp2_with fail
      refine (unhide HFIT ua uc _ w2 (unhide HBW) (unhide HI)).mono ?_
      rintro r w3 ⟨rfl, hb3⟩
      have HBW3 := hide ((unhide HBW).trans (hb3.mono (unhide HBW).size))
      have HKK3 := hide ((unhide HKK).below hb3 (unhide HS1))
      have HS3 : Hid (w.heap.size + 1 ≤ w3.heap.size) := hide (Nat.le_trans (unhide HS1) hb3.size)
      clear hb3
      cases fb
      · have hblk := unhide HKK3
        have q0 := hblk.cellAt (i := 0) rfl
        have q1 := hblk.cellAt (i := 1) rfl
        have q2 := hblk.cellAt (i := 2) rfl
        have f0 := hblk.2 0
        have f1 := hblk.2 1
        have f2 := hblk.2 2
        have HBLK := HKK3
        have HBB := HBW3
        clear hblk
        go_wp2
        have hn := (((unhide HBLK).set 0 (.int .i64 0) (by simp)).set 1 (.int .i64 0) (by simp)).set 2 (.slice none 0 0) (by simp)
        have hFB := (((unhide HBB).setCell (p := ⟨w.heap.size, 0, none⟩) (Nat.le_refl _) (.int .i64 0)).setCell (p := ⟨w.heap.size, 1, none⟩) (Nat.le_refl _) (.int .i64 0)).setCell (p := ⟨w.heap.size, 2, none⟩) (Nat.le_refl _) (.slice none 0 0)
        obtain ⟨FW, hF⟩ : ∃ FW, FW = ((w3.setCell ⟨w.heap.size, 0, none⟩ (.int .i64 0)).setCell ⟨w.heap.size, 1, none⟩ (.int .i64 0)).setCell ⟨w.heap.size, 2, none⟩ (.slice none 0 0) := ⟨_, rfl⟩
        rw [← hF] at hn hFB ⊢
        have g0 := hn.cellAt (i := 0) rfl
        have g1 := hn.cellAt (i := 1) rfl
        have g2 := hn.cellAt (i := 2) rfl
        refine bodyPost_ret (v := .tuple #[.agg #[.int .i64 0, .int .i64 0, .slice none 0 0], .int .i64 (-1)]) (by simp [results, Try.results27, go_sem, g0, g1, g2]) rfl ?_
        rw [unhide HX]
        exact .plain hFB
      · have HC := hide (unhide HACT w3 lo a cap xs (unhide HBW3) ((unhide HM).kept (unhide HBW3)) (unhide HFB rfl))
        rw [if_pos rfl] at HX
        rw [← unhide HX] at HC
        clear HACT HFIT
        obtain ⟨⟨kd, nu, rr⟩, co⟩ := R
        go_wp2_with fail
        refine (unhide HC).mono ?_
        rintro r w4 ⟨v4, rfl, ho4, hb4⟩
        dsimp only at ho4
        obtain ⟨av, cv, rfl⟩ := ho4.form
        have hblk := (unhide HKK3).below hb4 (unhide HS3)
        have q0 := hblk.cellAt (i := 0) rfl
        have q1 := hblk.cellAt (i := 1) rfl
        have q2 := hblk.cellAt (i := 2) rfl
        have f0 := hblk.2 0
        have f1 := hblk.2 1
        have f2 := hblk.2 2
        have HBLK := hide hblk
        have HBB := hide ((unhide HBW3).trans (hb4.mono (unhide HBW3).size))
        have OW := hide ho4
        clear hblk hb4 ho4
        dsimp only
        obtain ⟨LL, hLL⟩ : ∃ t, rr.length = t := ⟨_, rfl⟩
        rw [hLL] at OW ⊢
        clear hLL
        go_wp2
        have hn := (((unhide HBLK).set 0 (.int .i64 kd) (by simp)).set 1 (.int .i64 nu) (by simp)).set 2 (.slice av LL cv) (by simp)
        have hFB := (((unhide HBB).setCell (p := ⟨w.heap.size, 0, none⟩) (Nat.le_refl _) (.int .i64 kd)).setCell (p := ⟨w.heap.size, 1, none⟩) (Nat.le_refl _) (.int .i64 nu)).setCell (p := ⟨w.heap.size, 2, none⟩) (Nat.le_refl _) (.slice av LL cv)
        obtain ⟨FW, hF⟩ : ∃ FW, FW = ((w4.setCell ⟨w.heap.size, 0, none⟩ (.int .i64 kd)).setCell ⟨w.heap.size, 1, none⟩ (.int .i64 nu)).setCell ⟨w.heap.size, 2, none⟩ (.slice av LL cv) := ⟨_, rfl⟩
        rw [← hF] at hn hFB ⊢
        have g0 := hn.cellAt (i := 0) rfl
        have g1 := hn.cellAt (i := 1) rfl
        have g2 := hn.cellAt (i := 2) rfl
        refine bodyPost_ret (v := .tuple #[.agg #[.int .i64 kd, .int .i64 nu, .slice av LL cv], .int .i64 co]) (by simp [results, Try.results27, go_sem, g0, g1, g2]) rfl ?_
        refine ⟨_, rfl, ?_, hFB⟩
        rw [hF]
        have hS := unhide HS3
        exact (((((unhide OW).setE hS).setE hS).setE hS).same (fun _ _ _ => ⟨fun _ => rfl, fun _ => rfl⟩) (by omega) (by simp [World.setCell]))
    · have HACT := hide hact
      clear hact
      go_enter Try.func27, Try.ntmps27
      go_wp2_with fail
      refine (unhide HT _).mono ?_
      rintro r w2 ⟨u, rfl, ho, hb2⟩
      obtain ⟨ua, uc, rfl, hui⟩ := ho.ints
      have HBW := hide ((below_new w _).trans (hb2.mono (by simp)))
      have HKK := hide ((Blk.new w [Value.int .i64 0, Value.int .i64 0, Value.slice none 0 0] 28).below hb2 (by simp))
      have HS1 : Hid (w.heap.size + 1 ≤ w2.heap.size) := hide (by have := hb2.size; rw [alloc_size] at this; exact this)
      have HI := hide hui
      clear ho hb2 hui
      go_wp2_with fail
      refine (unhide HFIT ua uc _ w2 (unhide HBW) (unhide HI)).mono ?_
      rintro r w3 ⟨rfl, hb3⟩
      have HBW3 := hide ((unhide HBW).trans (hb3.mono (unhide HBW).size))
      have HKK3 := hide ((unhide HKK).below hb3 (unhide HS1))
      have HS3 : Hid (w.heap.size + 1 ≤ w3.heap.size) := hide (Nat.le_trans (unhide HS1) hb3.size)
      clear hb3
      cases fb
      · have hblk := unhide HKK3
        have q0 := hblk.cellAt (i := 0) rfl
        have q1 := hblk.cellAt (i := 1) rfl
        have q2 := hblk.cellAt (i := 2) rfl
        have f0 := hblk.2 0
        have f1 := hblk.2 1
        have f2 := hblk.2 2
        have HBLK := HKK3
        have HBB := HBW3
        clear hblk
        go_wp2
        have hn := (((unhide HBLK).set 0 (.int .i64 0) (by simp)).set 1 (.int .i64 0) (by simp)).set 2 (.slice none 0 0) (by simp)
        have hFB := (((unhide HBB).setCell (p := ⟨w.heap.size, 0, none⟩) (Nat.le_refl _) (.int .i64 0)).setCell (p := ⟨w.heap.size, 1, none⟩) (Nat.le_refl _) (.int .i64 0)).setCell (p := ⟨w.heap.size, 2, none⟩) (Nat.le_refl _) (.slice none 0 0)
        obtain ⟨FW, hF⟩ : ∃ FW, FW = ((w3.setCell ⟨w.heap.size, 0, none⟩ (.int .i64 0)).setCell ⟨w.heap.size, 1, none⟩ (.int .i64 0)).setCell ⟨w.heap.size, 2, none⟩ (.slice none 0 0) := ⟨_, rfl⟩
        rw [← hF] at hn hFB ⊢
        have g0 := hn.cellAt (i := 0) rfl
        have g1 := hn.cellAt (i := 1) rfl
        have g2 := hn.cellAt (i := 2) rfl
        refine bodyPost_ret (v := .tuple #[.agg #[.int .i64 0, .int .i64 0, .slice none 0 0], .int .i64 (-1)]) (by simp [results, Try.results27, go_sem, g0, g1, g2]) rfl ?_
        rw [unhide HX]
        exact .plain hFB
      · have HC := hide (unhide HACT w3 lo a cap xs (unhide HBW3) ((unhide HM).kept (unhide HBW3)) (unhide HFB rfl))
        rw [if_pos rfl] at HX
        rw [← unhide HX] at HC
        clear HACT HFIT
        obtain ⟨⟨kd, nu, rr⟩, co⟩ := R
        go_wp2_with fail
        refine (unhide HC).mono ?_
        rintro r w4 ⟨v4, rfl, ho4, hb4⟩
        dsimp only at ho4
        obtain ⟨av, cv, rfl⟩ := ho4.form
        have hblk := (unhide HKK3).below hb4 (unhide HS3)
        have q0 := hblk.cellAt (i := 0) rfl
        have q1 := hblk.cellAt (i := 1) rfl
        have q2 := hblk.cellAt (i := 2) rfl
        have f0 := hblk.2 0
        have f1 := hblk.2 1
        have f2 := hblk.2 2
        have HBLK := hide hblk
        have HBB := hide ((unhide HBW3).trans (hb4.mono (unhide HBW3).size))
        have OW := hide ho4
        clear hblk hb4 ho4
        dsimp only
        obtain ⟨LL, hLL⟩ : ∃ t, rr.length = t := ⟨_, rfl⟩
        rw [hLL] at OW ⊢
        clear hLL
        go_wp2
        have hn := (((unhide HBLK).set 0 (.int .i64 kd) (by simp)).set 1 (.int .i64 nu) (by simp)).set 2 (.slice av LL cv) (by simp)
        have hFB := (((unhide HBB).setCell (p := ⟨w.heap.size, 0, none⟩) (Nat.le_refl _) (.int .i64 kd)).setCell (p := ⟨w.heap.size, 1, none⟩) (Nat.le_refl _) (.int .i64 nu)).setCell (p := ⟨w.heap.size, 2, none⟩) (Nat.le_refl _) (.slice av LL cv)
        obtain ⟨FW, hF⟩ : ∃ FW, FW = ((w4.setCell ⟨w.heap.size, 0, none⟩ (.int .i64 kd)).setCell ⟨w.heap.size, 1, none⟩ (.int .i64 nu)).setCell ⟨w.heap.size, 2, none⟩ (.slice av LL cv) := ⟨_, rfl⟩
        rw [← hF] at hn hFB ⊢
        have g0 := hn.cellAt (i := 0) rfl
        have g1 := hn.cellAt (i := 1) rfl
        have g2 := hn.cellAt (i := 2) rfl
        refine bodyPost_ret (v := .tuple #[.agg #[.int .i64 kd, .int .i64 nu, .slice av LL cv], .int .i64 co]) (by simp [results, Try.results27, go_sem, g0, g1, g2]) rfl ?_
        refine ⟨_, rfl, ?_, hFB⟩
        rw [hF]
        have hS := unhide HS3
        exact (((((unhide OW).setE hS).setE hS).setE hS).same (fun _ _ _ => ⟨fun _ => rfl, fun _ => rfl⟩) (by omega) (by simp [World.setCell]))

set_option maxRecDepth 100000 in
set_option maxHeartbeats 4000000 in
theorem MeanPrimI_any (s : ByteArray) (hs : s.size ≤ 1048576) (lo : Nat) (a : Option Addr) (cap : Nat) (xs : List MV) (w : World) (h : Mvs w lo a xs) (hl : xs.length ≤ 1048576) :
    Calls Try.prog 10 #[.string s, .slice a xs.length cap] w fun e w' => PPost (meanR (primN s.toList) xs) w e w' := by
  have HO := hide (fun (b : Nat) (W : World) (hb : Below w.heap.size w W) (hP : Prims W b) => of_any b s hs lo a cap xs W hP (h.kept hb) hl)
  obtain ⟨R, hR⟩ : ∃ R, meanR (primN s.toList) xs = R := ⟨_, rfl⟩
  rw [hR] at HO ⊢
  clear h hR
  obtain ⟨⟨kd, nu, rr⟩, co⟩ := R
  go_enter Try.func10, Try.ntmps10
  go_wp2_with fail
  refine (made_any _).mono ?_
  rintro r w3 ⟨b, rfl, hP, hb3⟩
  have HBW3 := hide ((below_new w _).trans (hb3.mono (by simp)))
  have HKK3 := hide ((Blk.new w [Value.int .i64 0, Value.int .i64 0, Value.slice none 0 0] 28).below hb3 (by simp))
  have HS3 : Hid (w.heap.size + 1 ≤ w3.heap.size) := hide (by have := hb3.size; rw [alloc_size] at this; exact this)
  have HC := hide (unhide HO b w3 (unhide HBW3) hP)
  clear hb3 hP HO
  go_wp2_with fail
  refine (unhide HC).mono ?_
  rintro r w4 ⟨v4, rfl, ho4, hb4⟩
  dsimp only at ho4
  obtain ⟨av, cv, rfl⟩ := ho4.form
  have hblk := (unhide HKK3).below hb4 (unhide HS3)
  have q0 := hblk.cellAt (i := 0) rfl
  have q1 := hblk.cellAt (i := 1) rfl
  have q2 := hblk.cellAt (i := 2) rfl
  have f0 := hblk.2 0
  have f1 := hblk.2 1
  have f2 := hblk.2 2
  have HBLK := hide hblk
  have HBB := hide ((unhide HBW3).trans (hb4.mono (unhide HBW3).size))
  have OW := hide ho4
  clear hblk hb4 ho4
  dsimp only
  obtain ⟨LL, hLL⟩ : ∃ t, rr.length = t := ⟨_, rfl⟩
  rw [hLL] at OW ⊢
  clear hLL
  go_wp2
  have hn := (((unhide HBLK).set 0 (.int .i64 kd) (by simp)).set 1 (.int .i64 nu) (by simp)).set 2 (.slice av LL cv) (by simp)
  have hFB := (((unhide HBB).setCell (p := ⟨w.heap.size, 0, none⟩) (Nat.le_refl _) (.int .i64 kd)).setCell (p := ⟨w.heap.size, 1, none⟩) (Nat.le_refl _) (.int .i64 nu)).setCell (p := ⟨w.heap.size, 2, none⟩) (Nat.le_refl _) (.slice av LL cv)
  obtain ⟨FW, hF⟩ : ∃ FW, FW = ((w4.setCell ⟨w.heap.size, 0, none⟩ (.int .i64 kd)).setCell ⟨w.heap.size, 1, none⟩ (.int .i64 nu)).setCell ⟨w.heap.size, 2, none⟩ (.slice av LL cv) := ⟨_, rfl⟩
  rw [← hF] at hn hFB ⊢
  have g0 := hn.cellAt (i := 0) rfl
  have g1 := hn.cellAt (i := 1) rfl
  have g2 := hn.cellAt (i := 2) rfl
  refine bodyPost_ret (v := .tuple #[.agg #[.int .i64 kd, .int .i64 nu, .slice av LL cv], .int .i64 co]) (by simp [results, Try.results10, go_sem, g0, g1, g2]) rfl ?_
  refine ⟨_, rfl, ?_, hFB⟩
  rw [hF]
  have hS := unhide HS3
  exact (((((unhide OW).setE hS).setE hS).setE hS).same (fun _ _ _ => ⟨fun _ => rfl, fun _ => rfl⟩) (by omega) (by simp [World.setCell]))
end Go.Proofs.Ytjnahhalgckggaa
