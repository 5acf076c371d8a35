/- The walk of spec.TreeOk. Conditions: the module can be read, and weighs at most 2^20. -/
import Derived.Test.YtgmohnbjfemebaaGreatDoorUh
import Derived.OwnWalk
import Derived.Laws.AppendOwn
namespace Go.Proofs.YtgmohnbjfemebaaGreatDoor
open Go.RowKit Go.PlainAid

theorem own_kept {W W' : World} {base e s n : Nat} {v : Value} {xs : List Value} (h : W.ownsRow base e s v n xs) (hb : Below W.heap.size W W') : W'.ownsRow base e s v n xs := by
  refine ⟨h.1, ?_⟩
  rcases h.2 with hn | ⟨g, cap, cur, hv, hg, hgb, rest⟩
  · exact .inl hn
  · exact .inr ⟨g, cap, cur, hv, hg, (hb.block g (Array.getElem?_eq_some_iff.1 hgb).1).trans hgb, rest⟩
theorem own_wds {W : World} {m k : Nat} {v : Value} {ws : List ByteArray} (h : W.ownsRow m 9 1 v k (ws.map Value.string)) (hk : k = ws.length) : ∃ (a : Option Addr) (cap : Nat), v = .slice a ws.length cap ∧ ws.length ≤ cap ∧ IsWds W m W.heap.size a ws := by
  subst hk
  rcases h.2 with ⟨hv, h0⟩ | ⟨g, cap, cur, hv, hg, hgb, hnc, _⟩
  · refine ⟨none, 0, by rw [hv, h0], by omega, .inl (List.length_eq_zero_iff.1 h0)⟩
  · refine ⟨some ⟨g, 0, none⟩, cap, hv, hnc, .inr ⟨g, 0, rfl, hg, (Array.getElem?_eq_some_iff.1 hgb).1, fun j hj => ?_⟩⟩
    subst hv
    rw [Nat.zero_add, h.cellAt j (by omega)]
    simp [hj]
theorem own_slice {W : World} {m e size k : Nat} {v : Value} {xs : List Value} (h : W.ownsRow m e size v k xs) : ∃ ao cap, v = .slice ao k cap := by
  rcases h.2 with ⟨hv, h0⟩ | ⟨g, cap, cur, hv, _⟩
  · exact ⟨none, 0, by rw [hv, h0]⟩
  · exact ⟨_, _, hv⟩
theorem own_succ {W : World} {base : Nat} {e : TypeId} {size : Nat} {v : Value} {k : Nat} {xs : List Value} (h : W.ownsRow base e size v (k + 1) xs) : ∃ g cap, v = .slice (some ⟨g, 0, none⟩) (k + 1) cap := by
  rcases h.2 with ⟨_, h0⟩ | ⟨g, cap, cur, hv, _⟩
  · omega
  · exact ⟨_, _, hv⟩
theorem own_next {W w2 : World} {base m k : Nat} {v v2 : Value} {pre : List ByteArray} {x : ByteArray} (hrow : W.ownsRow base 9 1 v k (pre.map Value.string)) (hW : base ≤ W.heap.size)
    (hown : w2.ownsRow base 9 1 v2 m (pre.map Value.string ++ [.string x])) (hgrow : (W.alloc (.cells #[.string x] 9)).grownBy w2 v.ownBlock) : w2.ownsRow base 9 1 v2 m ((pre ++ [x]).map Value.string) ∧ Below base W w2 := by
  refine ⟨by rw [List.map_append]; exact hown, (((Below.refl base W).alloc hW _)).grown hgrow (by simp; omega) (fun k e => (hrow.lt k e).1)⟩

theorem names_all : ∀ (l pre : List ByteArray), namesFrom pre l = true → l.all (fun x => nameB x.data.toList) = true
  | [], _, _ => rfl
  | x :: t, pre, h => by
    rw [namesFrom, Bool.and_eq_true, Bool.and_eq_true] at h
    rw [List.all_cons, h.1, names_all t _ h.2.2]; rfl
theorem funs_all : ∀ l : List TF, l.all TF.allB = ((l.map TF.name).all (fun x => nameB x.data.toList) && l.all (fun f => f.headB && f.body.ok))
  | [] => rfl
  | f :: t => by
    rw [List.all_cons, List.map_cons, List.all_cons, List.all_cons, funs_all t, TF.allB]
    cases nameB f.name.data.toList <;> cases (f.headB && f.body.ok) <;> simp
theorem okB_spec (m : TM) : m.okB = (decide (m.uses.length ≤ 4) && (decide (m.funs.length ≤ 8) && (decide (m.main.length ≤ 1) && (namesB m.uses && (sizeFrom 0 m.bodies && (m.funs.all TF.allB && (namesB (m.funs.map TF.name) && okL m.main))))))) := by
  rw [TM.okB, funs_all]
  cases hn : namesB (m.funs.map TF.name) with
  | false => simp
  | true =>
    rw [names_all _ _ hn]; rfl

set_option maxRecDepth 100000 in
set_option maxHeartbeats 4000000 in
theorem TreeOkS_any (lo h : Nat) (v : Value) (m : TM) (w : World) (hM : IsMod w lo w.heap.size h v m) (ht : m.wt ≤ 1048576) :
    Calls Tryz.prog 39 #[v] w fun r w' => r = .returned (.bool m.okB) ∧ Below w.heap.size w w' := by
  obtain ⟨i0, hi, hz0, hz1, hz2⟩ := info_parts wsinfo
  have HX := hide (okB_spec m)
  have HSZ := hide (fun (w' : World) (hb : Below w.heap.size w w') => l2Size_any lo h v m w' (IsMod.kept h hb hb.size v m hM) ht)
  obtain ⟨us, fs, mn⟩ := m
  obtain ⟨a1, a2, a3, k1, k2, k3, rfl, ⟨z1, z2, z3, z4, _⟩, q1, q2, q3⟩ := hM
  dsimp only at z1 z2 z3 q1 q2 q3 HX ⊢
  generalize TM.okB _ = R at HX ⊢
  generalize TM.bodies _ = BD at HX HSZ
  have HU := hide (fun (w' : World) (hb : Below w.heap.size w w') => l2Uses_any lo a1 k1 us w' (q1.kept hb hb.size) z1)
  have HQ2 := hide q2
  have HQ3 := hide q3
  unfold maxLen at z1 z2 z3
  clear q1 q2 q3 z4 ht
  by_cases g1 : 4 < us.length
  · have HR : Hid (R = false) := hide (by rw [unhide HX, decide_eq_false (by omega)]; rfl)
    go_enter Tryz.func39, Tryz.ntmps39
    go_wp2
    go_ret
    exact ⟨ret_bool (unhide HR).symm, (Below.refl _ _).alloc (Nat.le_refl _) _⟩
  by_cases g2 : 8 < fs.length
  · have HR : Hid (R = false) := hide (by rw [unhide HX, decide_eq_false (p := fs.length ≤ 8) (by omega)]; simp)
    go_enter Tryz.func39, Tryz.ntmps39
    go_wp2
    go_ret
    exact ⟨ret_bool (unhide HR).symm, (Below.refl _ _).alloc (Nat.le_refl _) _⟩
  by_cases g3 : 1 < mn.length
  · have HR : Hid (R = false) := hide (by rw [unhide HX, decide_eq_false (p := mn.length ≤ 1) (by omega)]; simp)
    go_enter Tryz.func39, Tryz.ntmps39
    go_wp2
    go_ret
    exact ⟨ret_bool (unhide HR).symm, (Below.refl _ _).alloc (Nat.le_refl _) _⟩
  have HX1 : Hid (R = (namesB us && (sizeFrom 0 BD && (fs.all TF.allB && (namesB (fs.map TF.name) && okL mn))))) := hide (by rw [unhide HX, decide_eq_true (by omega), decide_eq_true (by omega), decide_eq_true (by omega)]; rfl)
  clear HX
  go_enter Tryz.func39, Tryz.ntmps39
  go_wp2_with fail
  refine (unhide HU _ ((Below.refl _ _).alloc (Nat.le_refl _) _)).mono ?_
  rintro r w2 ⟨rfl, hb2⟩
  have hB2 : Below w.heap.size w w2 := ((Below.refl _ w).alloc (Nat.le_refl _) _).trans (hb2.mono (by simp))
  have n1 : Blk w2 w.heap.size [Value.slice a1 us.length k1, .slice a2 fs.length k2, .slice a3 mn.length k3] := (Blk.new w [Value.slice a1 us.length k1, .slice a2 fs.length k2, .slice a3 mn.length k3] 27).below hb2 (by simp)
  have hS2 : w.heap.size + 1 ≤ w2.heap.size := by have := hb2.size; rw [alloc_size] at this; omega
  have p0 := n1.cellAt (i := 0) rfl
  have p1 := n1.cellAt (i := 1) rfl
  have p2 := n1.cellAt (i := 2) rfl
  have N1 := hide n1
  have HB2 := hide hB2
  have HS2 := hide hS2
  clear n1 hb2 hB2 hS2
  cases hu : namesB us with
  | false =>
    have HR : Hid (R = false) := hide (by rw [unhide HX1, hu]; rfl)
    go_wp2
    go_ret
    exact ⟨ret_bool (unhide HR).symm, unhide HB2⟩
  | true =>
  have HX2 : Hid (R = (sizeFrom 0 BD && (fs.all TF.allB && (namesB (fs.map TF.name) && okL mn)))) := hide (by rw [unhide HX1, hu]; rfl)
  clear HX1
  go_wp2_with fail
  refine (unhide HSZ _ (unhide HB2)).mono ?_
  rintro r w3 ⟨rfl, hb3⟩
  have hB3 : Below w.heap.size w w3 := (unhide HB2).trans (hb3.mono (unhide HB2).size)
  have n1 := (unhide N1).below hb3 (by have := unhide HS2; omega)
  have hS3 : w.heap.size + 1 ≤ w3.heap.size := by have := hb3.size; have := unhide HS2; omega
  have p1 := n1.cellAt (i := 1) rfl
  have p2 := n1.cellAt (i := 2) rfl
  have N3 := hide n1
  have HB3 := hide hB3
  have HS3 := hide hS3
  clear n1 hb3 hB3 hS3 N1 HB2 HS2 p0
  cases hz : sizeFrom 0 BD with
  | false =>
    have HR : Hid (R = false) := hide (by rw [unhide HX2, hz]; rfl)
    go_wp2
    go_ret
    exact ⟨ret_bool (unhide HR).symm, unhide HB3⟩
  | true =>
  have HX3 : Hid (R = (fs.all TF.allB && (namesB (fs.map TF.name) && okL mn))) := hide (by rw [unhide HX2, hz]; rfl)
  clear HX2 HU HSZ hu hz
  go_wp2
  go_loopw [3, 4] (fun o i wr => ∃ k : Nat, k ≤ fs.length ∧ i = .int .i64 k ∧ wr.ownsRow (w.heap.size + 1) 9 1 o k (((fs.take k).map TF.name).map Value.string) ∧ Hid ((fs.take k).all TF.allB = true) ∧ wr.cell? ⟨w.heap.size, 1, none⟩ = some (.slice a2 fs.length k2) ∧ wr.cell? ⟨w.heap.size, 2, none⟩ = some (.slice a3 mn.length k3) ∧ w.heap.size + 1 ≤ wr.heap.size ∧ Hid (Below w.heap.size w wr)) (fun _ i _ => fs.length - (intOf i).toNat)
  case atStart =>
    have hs := unhide HS3
    exact ⟨0, Nat.zero_le _, rfl, World.ownsRow_lit w3 #[] 0 hs (Nat.zero_le _) rfl, hide rfl, (World.cell?_alloc_lt _ _ _ (by show w.heap.size < _; omega)).trans p1, (World.cell?_alloc_lt _ _ _ (by show w.heap.size < _; omega)).trans p2, by simp; omega, hide ((unhide HB3).alloc (by omega) _)⟩
  case round =>
    clear p1 p2 N3 HB3 HS3
    obtain ⟨k, hk, rfl, hrow, HAL, hc1, hc2, hsz, HB⟩ := hrel
    by_cases hp : k < fs.length
    · rcases (unhide HQ2) with hq | ⟨b, off, rfl, hbl, hbn, hcs⟩
      · rw [hq] at hp; simp at hp
      obtain ⟨c0, c1, c2, c3, c4, c5, c6, c7, c8, d0, d1, d2, d3, d4, d5, d6, d7, d8, hr⟩ := hcs k hp
      have htk : fs.take (k + 1) = fs.take k ++ [fs[k]] := List.take_succ_eq_append_getElem hp
      have hbad : fs[k].allB = false → fs.all TF.allB = false := fun hb => by rw [List.all_eq_false]; exact ⟨_, List.getElem_mem hp, by rw [hb]; simp⟩
      obtain ⟨f, hf⟩ : ∃ f, fs[k] = f := ⟨_, rfl⟩
      rw [hf] at hr htk hbad
      obtain ⟨aa, ca, b0, b1, b2, b3, b4, hv, hzz, haa, hE⟩ := hr
      simp only [Value.agg.injEq, Array.mk.injEq, List.cons.injEq, and_true] at hv
      obtain ⟨rfl, rfl, rfl, rfl, rfl, rfl, rfl, rfl, rfl⟩ := hv
      have HF := hide (fun (w' : World) (hb : Below w.heap.size w w') => l2Fun_any lo h _ f w' (IsFun.same h (Below.same hb) (Nat.le_refl _) hb.size _ _ ⟨aa, ca, _, _, _, _, _, rfl, hzz, haa, hE⟩))
      have hD : ∀ (W : World), Below w.heap.size w W → ∀ o v, w.cell? ⟨b, o, none⟩ = some v → W.cell? ⟨b, o, none⟩ = some v := fun W hb o v hv => (hb.cell (p := ⟨b, o, none⟩) hbn).trans hv
      have e0 := hD wr (unhide HB) _ _ d0
      have HD := hide hD
      have HTK := hide htk
      have HBAD := hide hbad
      obtain ⟨vs, cp, rfl⟩ := own_slice hrow
      have HROW := hide hrow
      have HDS := hide (⟨d0, d1, d2, d3, d4, d5, d6, d7, d8⟩ : _ ∧ _ ∧ _ ∧ _ ∧ _ ∧ _ ∧ _ ∧ _ ∧ _)
      clear hcs hf htk hbad hzz haa hE hD d0 d1 d2 d3 d4 d5 d6 d7 d8
      go_wp2_with (first | (at_builtin; refine wpList_append_own _ rfl _ _ 23 rfl (w.heap.size + 1) 9 i0 (.string ⟨#[]⟩) 1 16 Tryz.underlying23 hi hz0 hz1 hz2 rfl (by decide) _ _ _ rfl (hrow.alloc _) ⟨wr.heap.size, 0, none⟩ 1 1 [.string f.name] rfl rfl (cell_one_new _ _ _) (by simp [Value.oneCell']) (by unfold maxLen; omega) (by omega) (by simp; omega) ?_; intro v2 w2 hown2 hgrow2 _; obtain ⟨g2, cap2, rfl⟩ := own_succ hown2; obtain ⟨hown3, hbb⟩ := own_next (unhide HROW) hsz hown2 hgrow2; have hB2 := (unhide HB).trans (hbb.mono (Nat.le_succ _)); obtain ⟨d0, d1, d2, d3, d4, d5, d6, d7, d8⟩ := unhide HDS; have s0 := unhide HD w2 hB2 _ _ d0; have s1 := unhide HD w2 hB2 _ _ d1; have s2 := unhide HD w2 hB2 _ _ d2; have s3 := unhide HD w2 hB2 _ _ d3; have s4 := unhide HD w2 hB2 _ _ d4; have s5 := unhide HD w2 hB2 _ _ d5; have s6 := unhide HD w2 hB2 _ _ d6; have s7 := unhide HD w2 hB2 _ _ d7; have s8 := unhide HD w2 hB2 _ _ d8; have t1 := (hbb.cell (p := ⟨w.heap.size, 1, none⟩) (Nat.lt_succ_self _)).trans hc1; have t2 := (hbb.cell (p := ⟨w.heap.size, 2, none⟩) (Nat.lt_succ_self _)).trans hc2; have HO3 := hide hown3; have HBB := hide hbb; have HB2 := hide hB2; clear hown2 hgrow2 hown3 hbb hB2 d0 d1 d2 d3 d4 d5 d6 d7 d8 hc1 hc2 hrow e0))
      refine (unhide HF _ (unhide HB2)).mono ?_
      rintro r w3 ⟨rfl, hb3⟩
      have hrow3 := own_kept (unhide HO3) hb3
      have hz2 : w.heap.size + 1 ≤ w2.heap.size := by have := (unhide HBB).size; omega
      have u1 := (hb3.cell (p := ⟨w.heap.size, 1, none⟩) (by show w.heap.size < _; omega)).trans t1
      have u2 := (hb3.cell (p := ⟨w.heap.size, 2, none⟩) (by show w.heap.size < _; omega)).trans t2
      have hz3 : w.heap.size + 1 ≤ w3.heap.size := by have := hb3.size; omega
      have HB3 := hide ((unhide HB2).trans (hb3.mono (unhide HB2).size))
      have HR3 : Hid (w3.ownsRow (w.heap.size + 1) 9 1 (.slice (some ⟨g2, 0, none⟩) (k + 1) cap2) (k + 1) (((fs.take (k + 1)).map TF.name).map Value.string)) := hide (by rw [unhide HTK, List.map_append]; exact hrow3)
      clear hrow3 hb3 HO3 HBB HB2 t1 t2 s0 s1 s2 s3 s4 s5 s6 s7 s8 hz2
      cases hal : f.allB with
      | false =>
        have HR : Hid (R = false) := hide (by rw [unhide HX3, unhide HBAD hal]; rfl)
        go_wp2
        go_ret
        exact ⟨ret_bool (unhide HR).symm, unhide HB3⟩
      | true =>
        have HAL2 : Hid ((fs.take (k + 1)).all TF.allB = true) := hide (by rw [unhide HTK, List.all_append, unhide HAL, List.all_cons, hal]; rfl)
        go_wp2
        go_roundw
        case rel => exact ⟨k + 1, by omega, by go_num, unhide HR3, HAL2, u1, u2, hz3, HB3⟩
        case measure => simp [intOf]; omega
    · have hek : k = fs.length := by omega
      subst hek
      have HX4 : Hid (R = (namesB (fs.map TF.name) && okL mn)) := hide (by
        have := unhide HAL
        rw [List.take_of_length_le (Nat.le_refl _)] at this
        rw [unhide HX3, this]; rfl)
      rw [List.take_of_length_le (Nat.le_refl _)] at hrow
      obtain ⟨va, vc, rfl, _, hwd⟩ := own_wds hrow (by simp)
      have HWD := hide hwd
      clear hwd hrow HX3 HAL
      rw [List.length_map]
      go_wp2_with fail
      have hU := l2Uses_any (w.heap.size + 1) va vc (fs.map TF.name) wr (unhide HWD) (by rw [List.length_map]; unfold maxLen; omega)
      rw [List.length_map] at hU
      refine hU.mono ?_
      rintro r w4 ⟨rfl, hb4⟩
      have u2 := (hb4.cell (p := ⟨w.heap.size, 2, none⟩) (by show w.heap.size < _; omega)).trans hc2
      have HB4 := hide ((unhide HB).trans (hb4.mono (unhide HB).size))
      clear hU hb4 HB hc1 hc2 HWD
      cases hna : namesB (fs.map TF.name) with
      | false =>
        have HR : Hid (R = false) := hide (by rw [unhide HX4, hna]; rfl)
        go_wp2
        go_ret
        exact ⟨ret_bool (unhide HR).symm, unhide HB4⟩
      | true =>
      have HX5 : Hid (R = okL mn) := hide (by rw [unhide HX4, hna]; rfl)
      clear HX4 hna
      match mn, g3 with
      | [], _ =>
        have HR : Hid (R = true) := hide (by rw [unhide HX5]; rfl)
        go_wp2
        go_ret
        exact ⟨ret_bool (unhide HR).symm, unhide HB4⟩
      | [e], _ =>
        have HR : Hid (R = e.ok) := hide (by rw [unhide HX5, okL, okL, Bool.and_true])
        rcases (unhide HQ3).kept (unhide HB4) (unhide HB4).size with hq | ⟨b, off, rfl, hbl, hbn, hcs⟩
        · simp at hq
        obtain ⟨c0, c1, c2, c3, c4, d0, d1, d2, d3, d4, hr⟩ := hcs 0 (by simp)
        have HE := hide (l2Expr_any (l2Node_any LexNameS_any) lo h _ e w4 hr)
        rw [Nat.zero_mul, Nat.add_zero] at d0 d1 d2 d3 d4
        clear hcs hr
        go_wp2_with fail
        refine (unhide HE).mono ?_
        rintro r w5 ⟨rfl, hb5⟩
        have HB5 := hide ((unhide HB4).trans (hb5.mono (unhide HB4).size))
        clear hb5 HB4 HE d0 d1 d2 d3 d4
        go_wp2
        go_ret
        exact ⟨ret_bool (unhide HR).symm, unhide HB5⟩
end Go.Proofs.YtgmohnbjfemebaaGreatDoor
