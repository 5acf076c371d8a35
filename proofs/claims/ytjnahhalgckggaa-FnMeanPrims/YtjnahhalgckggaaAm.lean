/- The walks of meanPut, slices.Grow, slices.Concat and meanJoin. Conditions: the values can be read. -/
import Derived.Test.YtjnahhalgckggaaAl
namespace Go.Proofs.Ytjnahhalgckggaa
open Go.RowKit Go.PlainAid


set_option maxRecDepth 100000 in
set_option maxHeartbeats 4000000 in
theorem meanPut_any (lo b off cap : Nat) (x y z : MV) (w : World) (hx : CellsMv w lo b off x) (hy : CellsMv w lo b (off + 3) y) (hzz : CellsMv w lo b (off + 6) z) (hb : b < w.heap.size) : Calls Try.prog 58 #[.slice (some ⟨b, off, none⟩) 3 cap] w fun e w' => PPost (if 0 ≤ y.num ∧ y.num < x.row.length then (⟨3, 0, x.row.set y.num.toNat z.num⟩, 0) else (⟨0, 0, []⟩, 2)) w e w' := by
  have HCX := hide hx
  have HCZ := hide hzz
  obtain ⟨a0, c0, p0, p1, p2, p3, p4⟩ := hx
  obtain ⟨a1, c1, r0, r1, r2, r3, r4⟩ := hy
  have HH := hide (fun p W => meanHas_any a0 x.row.length c0 p W)
  obtain ⟨pl, hpl⟩ : ∃ p, y.num = p := ⟨_, rfl⟩
  rw [hpl] at r1 ⊢
  obtain ⟨u, hu⟩ : ∃ p, z.num = p := ⟨_, rfl⟩
  rw [hu]
  obtain ⟨R, hR⟩ : ∃ R, (if 0 ≤ pl ∧ pl < x.row.length then ((⟨3, 0, x.row.set pl.toNat u⟩ : MV), (0 : Int)) else (⟨0, 0, []⟩, 2)) = R := ⟨_, rfl⟩
  rw [hR]
  clear p0 p1 r0 r2 r3 r4
  by_cases g : 0 ≤ pl ∧ pl < x.row.length
  · obtain ⟨q, hq⟩ := Int.eq_ofNat_of_zero_le g.1
    subst hq
    have hq : q < x.row.length := by omega
    have HX : Hid (R = (⟨3, 0, x.row.set q u⟩, 0)) := hide (by rw [← hR, if_pos g]; simp)
    have HG := hide (fun W => unhide HH (q : Int) W)
    rw [decide_eq_true g] at HG
    have HI4 := hide p4
    have HL3 := hide p3
    clear hR HH p4
    obtain ⟨L0, hL0⟩ : ∃ L, x.row.length = L := ⟨_, rfl⟩
    have HL0 := hide hL0
    rw [hL0] at p2 p3 g hq HG
    clear hL0
    go_enter Try.func58, Try.ntmps58
    go_wp2_with fail
    refine (unhide HG _).mono ?_
    rintro r w1 ⟨rfl, hb1⟩
    have HKK := hide ((Blk.new w [Value.int .i64 0, Value.int .i64 0, Value.slice none 0 0] 28).below hb1 (by simp))
    have HBW := hide ((below_new w _).trans (hb1.mono (by simp)))
    have HS1 : Hid (w.heap.size + 1 ≤ w1.heap.size) := hide (by have := hb1.size; rw [alloc_size] at this; exact this)
    have d2 : w1.cell? ⟨b, off + 2, none⟩ = some (.slice a0 L0 c0) := ((unhide HBW).cell (p := ⟨b, off + 2, none⟩) hb).trans p2
    obtain ⟨za, zc, e0, e1, e2, e3, e4⟩ := (unhide HCZ)
    rw [hu] at e1
    obtain ⟨v1, X1, k1, o1, y1⟩ := run_app_any w1 w1.heap.size (.slice none 0 0) [] x.row (OwnR.nil _ _) (Nat.le_refl _) a0 c0 lo w.heap.size ((unhide HI4).kept (unhide HBW) (Nat.le_refl _)) (by have : ([] : List Int).length = 0 := rfl; have := unhide HL3; omega)
    have b1 : Below w1.heap.size w1 X1 := grown_below y1 (Nat.le_refl _) (fun k hk => by cases hk)
    rw [List.nil_append] at o1
    have bX1 := (unhide HBW).trans (b1.mono (unhide HBW).size)
    have kX1 := (unhide HKK).below b1 (unhide HS1)
    have hX1S : w.heap.size + 1 ≤ X1.heap.size := Nat.le_trans (unhide HS1) b1.size
    have oo := o1.own
    obtain ⟨a3, c3, rfl, i3⟩ := o1.own
    have hql : q < x.row.length := by rw [unhide HL0]; exact hq
    rcases i3 with h | ⟨bb, rfl, hbl, hbn, hcs, hfz⟩
    · rw [h] at hql; simp at hql
    have cX1 : X1.cell? ⟨b, off + 6 + 1, none⟩ = some (.int .i64 u) := (bX1.cell (p := ⟨b, off + 6 + 1, none⟩) hb).trans e1
    have hcq := hcs q hql
    have hfq := hfz q
    have OWN := hide (oo.put (u := u) hql)
    have HBL := hide hbl
    obtain ⟨zq, hzq⟩ : ∃ zq, x.row[q] = zq := ⟨_, rfl⟩
    rw [hzq] at hcq
    rw [unhide HL0] at k1 OWN
    have HB1 := hide bX1
    have HK1 := hide kX1
    have HSX1 := hide hX1S
    clear e0 e2 e3 e4 hb1 o1 b1 y1 oo hcs hfz bX1 kX1 hX1S hzq hql hbl hzz
    go_wp2_with (at_builtin; refine wpList_run rfl (.const (.slice none 0 0)) (.tmp 21) 26 rfl rfl (.slice none 0 0) (.slice a0 L0 c0) rfl rfl (.slice (some ⟨bb, 0, none⟩) L0 c3) X1 k1 ?_)
    have hbb : w.heap.size + 1 ≤ bb := Nat.le_trans (unhide HS1) (unhide HBL)
    have HBX := hide ((unhide HB1).setCell (p := ⟨bb, q, none⟩) (Nat.le_trans (Nat.le_succ _) hbb) (.int .i64 u))
    have HKX := hide ((unhide HK1).other bb q (.int .i64 u) (by omega))
    have HSX : Hid (w.heap.size + 1 ≤ (X1.setCell ⟨bb, q, none⟩ (.int .i64 u)).heap.size) := hide (by simpa [World.setCell] using unhide HSX1)
    have OWX : Hid (OwnI (X1.setCell ⟨bb, q, none⟩ (.int .i64 u)) (w.heap.size + 1) (X1.setCell ⟨bb, q, none⟩ (.int .i64 u)).heap.size (.slice (some ⟨bb, 0, none⟩) L0 c3) (x.row.set q u)) := hide ((unhide OWN).same (fun _ _ _ => ⟨fun _ => rfl, fun _ => rfl⟩) (unhide HS1) (by simp [World.setCell]))
    refine (meanRow_any _ L0 c3 _).mono ?_
    rintro r w2 ⟨rfl, hb2⟩
    have hblk := (unhide HKX).below hb2 (unhide HSX)
    have q0 := hblk.cellAt (i := 0) rfl
    have q1 := hblk.cellAt (i := 1) rfl
    have q2 := hblk.cellAt (i := 2) rfl
    have f0 := hblk.2 0
    have f1 := hblk.2 1
    have f2 := hblk.2 2
    have HBLK := hide hblk
    have HBB := hide ((unhide HBX).trans (hb2.mono (unhide HBX).size))
    have OW := hide ((unhide OWX).kept hb2 hb2.size)
    clear hblk hb2
    go_wp2
    have hn := (((unhide HBLK).set 0 (.int .i64 3) (by simp)).set 1 (.int .i64 0) (by simp)).set 2 (.slice (some ⟨bb, 0, none⟩) L0 c3) (by simp)
    have hFB := (((unhide HBB).setCell (p := ⟨w.heap.size, 0, none⟩) (Nat.le_refl _) (.int .i64 3)).setCell (p := ⟨w.heap.size, 1, none⟩) (Nat.le_refl _) (.int .i64 0)).setCell (p := ⟨w.heap.size, 2, none⟩) (Nat.le_refl _) (.slice (some ⟨bb, 0, none⟩) L0 c3)
    obtain ⟨FW, hF⟩ : ∃ FW, FW = ((w2.setCell ⟨w.heap.size, 0, none⟩ (.int .i64 3)).setCell ⟨w.heap.size, 1, none⟩ (.int .i64 0)).setCell ⟨w.heap.size, 2, none⟩ (.slice (some ⟨bb, 0, none⟩) L0 c3) := ⟨_, rfl⟩
    rw [← hF] at hn hFB ⊢
    have g0 := hn.cellAt (i := 0) rfl
    have g1 := hn.cellAt (i := 1) rfl
    have g2 := hn.cellAt (i := 2) rfl
    refine bodyPost_ret (v := .tuple #[.agg #[.int .i64 3, .int .i64 0, .slice (some ⟨bb, 0, none⟩) L0 c3], .int .i64 0]) (by simp [results, Try.results58, go_sem, g0, g1, g2]) rfl ?_
    rw [unhide HX]
    refine ⟨_, rfl, ?_, hFB⟩
    rw [hF]
    exact (((((unhide OW).setE (Nat.lt_succ_self _)).setE (Nat.lt_succ_self _)).setE (Nat.lt_succ_self _)).same (fun _ _ _ => ⟨fun _ => rfl, fun _ => rfl⟩) (Nat.le_succ _) (by simp [World.setCell]))
  · have HX : Hid (R = (⟨0, 0, []⟩, 2)) := hide (by rw [← hR, if_neg g])
    have HG := hide (fun W => unhide HH pl W)
    rw [decide_eq_false g] at HG
    clear hR p4 HH
    obtain ⟨L0, hL0⟩ : ∃ L, x.row.length = L := ⟨_, rfl⟩
    rw [hL0] at p2 p3 HG
    go_enter Try.func58, Try.ntmps58
    go_wp2_with fail
    refine (unhide HG _).mono ?_
    rintro r w1 ⟨rfl, hb1⟩
    have HKK := hide ((Blk.new w [Value.int .i64 0, Value.int .i64 0, Value.slice none 0 0] 28).below hb1 (by simp))
    have HBW := hide ((below_new w _).trans (hb1.mono (by simp)))
    have HS1 : Hid (w.heap.size + 1 ≤ w1.heap.size) := hide (by have := hb1.size; rw [alloc_size] at this; exact this)
    have hblk := unhide HKK
    have q0 := hblk.cellAt (i := 0) rfl
    have q1 := hblk.cellAt (i := 1) rfl
    have q2 := hblk.cellAt (i := 2) rfl
    have f0 := hblk.2 0
    have f1 := hblk.2 1
    have f2 := hblk.2 2
    have HBLK := HKK
    have HBB := HBW
    clear hblk hb1
    go_wp2
    have hn := (((unhide HBLK).set 0 (.int .i64 0) (by simp)).set 1 (.int .i64 0) (by simp)).set 2 (.slice none 0 0) (by simp)
    have hFB := (((unhide HBB).setCell (p := ⟨w.heap.size, 0, none⟩) (Nat.le_refl _) (.int .i64 0)).setCell (p := ⟨w.heap.size, 1, none⟩) (Nat.le_refl _) (.int .i64 0)).setCell (p := ⟨w.heap.size, 2, none⟩) (Nat.le_refl _) (.slice none 0 0)
    obtain ⟨FW, hF⟩ : ∃ FW, FW = ((w1.setCell ⟨w.heap.size, 0, none⟩ (.int .i64 0)).setCell ⟨w.heap.size, 1, none⟩ (.int .i64 0)).setCell ⟨w.heap.size, 2, none⟩ (.slice none 0 0) := ⟨_, rfl⟩
    rw [← hF] at hn hFB ⊢
    have g0 := hn.cellAt (i := 0) rfl
    have g1 := hn.cellAt (i := 1) rfl
    have g2 := hn.cellAt (i := 2) rfl
    refine bodyPost_ret (v := .tuple #[.agg #[.int .i64 0, .int .i64 0, .slice none 0 0], .int .i64 2]) (by simp [results, Try.results58, go_sem, g0, g1, g2]) rfl ?_
    rw [unhide HX]
    exact .plain hFB
end Go.Proofs.Ytjnahhalgckggaa
