/- The walk of impl.TreeOk. Conditions: the module can be read. -/
import Derived.Test.YtgmohnbjfemebaaGreatDoorVd
import Derived.Test.YtgmohnbjfemebaaGreatDoorVc
namespace Go.Proofs.YtgmohnbjfemebaaGreatDoor
open Go.RowKit Go.PlainAid

theorem right_from (e : TE) (N M : Nat) (h : N + M = 150) : e.rightB M 1 = rightFrom N e := by
  unfold TE.rightB rightFrom
  rw [show decide (e.nodes ≤ M) = decide (N + e.nodes ≤ 150) from decide_eq_decide.2 (by omega), show decide (1 + e.deep ≤ 17) = decide (e.deep ≤ 16) from decide_eq_decide.2 (by omega)]
theorem own_other {W W' : World} {base e s n B : Nat} {v : Value} {xs : List Value} (h : W.ownsRow base e s v n xs) (hg : W.grownBy W' (some B)) (hB : B < base) : W'.ownsRow base e s v n xs :=
  h.kept hg (by
    cases hv : v.ownBlock with
    | none => exact .inl rfl
    | some k => exact .inr (fun e => by
        have := (h.lt k hv).1
        simp at e; omega))
theorem below_gr {w w' W : World} {B n : Nat} (hb : Below n w W) (hg : W.grownBy w' (some B)) (hn : n ≤ B) (hs : n ≤ W.heap.size) : Below n w w' :=
  hb.grown hg hs (fun k e => by simp at e; omega)

set_option maxRecDepth 100000 in
set_option maxHeartbeats 8000000 in
theorem TreeOkI_any (lo h : Nat) (v : Value) (m : TM) (w : World) (hM : IsMod w lo w.heap.size h v m) :
    Calls Tryz.prog 33 #[v] w fun r w' => r = .returned (.bool m.okB) ∧ Below w.heap.size w w' := by
  obtain ⟨i0, hi, hz0, hz1, hz2⟩ := info_parts wsinfo
  have HX := hide (ok_late m)
  obtain ⟨us, fs, mn⟩ := m
  obtain ⟨a1, a2, a3, k1, k2, k3, rfl, ⟨z1, z2, z3, z4, z5⟩, q1, q2, q3⟩ := hM
  dsimp only at z1 z2 z3 z5 q1 q2 q3 HX ⊢
  generalize TM.okB _ = R at HX ⊢
  have HU := hide (fun (w' : World) (hb : Below w.heap.size w w') => namesOk_any lo a1 k1 us w' (q1.kept hb hb.size) z1 z5)
  have HQ2 := hide q2
  have HQ3 := hide q3
  unfold maxLen at z1 z2 z3
  clear q1 q2 q3 z4
  by_cases g1 : 4 < us.length
  · have HR : Hid (R = false) := hide (by rw [unhide HX, decide_eq_false (by omega)]; rfl)
    go_enter Tryz.func33, Tryz.ntmps33
    go_wp2
    go_ret
    exact ⟨ret_bool (unhide HR).symm, (Below.refl _ _).alloc (Nat.le_refl _) _⟩
  by_cases g2 : 8 < fs.length
  · have HR : Hid (R = false) := hide (by rw [unhide HX, decide_eq_false (p := fs.length ≤ 8) (by omega)]; simp)
    go_enter Tryz.func33, Tryz.ntmps33
    go_wp2
    go_ret
    exact ⟨ret_bool (unhide HR).symm, (Below.refl _ _).alloc (Nat.le_refl _) _⟩
  by_cases g3 : 1 < mn.length
  · have HR : Hid (R = false) := hide (by rw [unhide HX, decide_eq_false (p := mn.length ≤ 1) (by omega)]; simp)
    go_enter Tryz.func33, Tryz.ntmps33
    go_wp2
    go_ret
    exact ⟨ret_bool (unhide HR).symm, (Below.refl _ _).alloc (Nat.le_refl _) _⟩
  have HX1 : Hid (R = lateB us mn 0 [] fs) := hide (by rw [unhide HX, decide_eq_true (by omega), decide_eq_true (by omega), decide_eq_true (by omega)]; rfl)
  clear HX
  go_enter Tryz.func33, Tryz.ntmps33
  go_wp2
  go_loopw [4, 29] (fun o i wr => ∃ k N M : Nat, k ≤ fs.length ∧ i = .int .i64 k ∧ N + M = 150 ∧ wr.ownsRow (w.heap.size + 2) 9 1 o k (((fs.take k).map TF.name).map Value.string) ∧ Hid (R = lateB us mn N ((fs.take k).map TF.name) (fs.drop k)) ∧ Hid (Ck wr (w.heap.size + 1) M) ∧ wr.cell? ⟨w.heap.size, 0, none⟩ = some (.slice a1 us.length k1) ∧ wr.cell? ⟨w.heap.size, 2, none⟩ = some (.slice a3 mn.length k3) ∧ w.heap.size + 2 ≤ wr.heap.size ∧ Hid (Below w.heap.size w wr)) (fun _ i _ => fs.length - (intOf i).toNat)
  case atStart =>
    refine ⟨0, 0, 150, Nat.zero_le _, rfl, rfl, World.ownsRow_nil _ _ _ _, HX1, hide ⟨by simp, by simp⟩, by simp, by simp, by simp, hide (((Below.refl _ _).alloc (Nat.le_refl _) _).alloc (by simp) _)⟩
  case round =>
    clear HX1
    obtain ⟨k, N, M, hk, rfl, hNM, hrow, HX2, HC, hc0, hc2, hsz, HB⟩ := hrel
    by_cases hp : k < fs.length
    · rcases (unhide HQ2) with hq | ⟨b, off, rfl, hbl, hbn, hcs⟩
      · rw [hq] at hp; simp at hp
      obtain ⟨c0, c1, c2, c3, c4, c5, c6, c7, c8, d0, d1, d2, d3, d4, d5, d6, d7, d8, hr⟩ := hcs k hp
      have htk : fs.take (k + 1) = fs.take k ++ [fs[k]] := List.take_succ_eq_append_getElem hp
      have hlt := late_at us mn fs N k ((fs.take k).map TF.name) hp
      obtain ⟨f, hf⟩ : ∃ f, fs[k] = f := ⟨_, rfl⟩
      rw [hf] at hr htk hlt
      obtain ⟨aa, ca, b0, b1, b2, b3, b4, hv, hzz, haa, hE⟩ := hr
      simp only [Value.agg.injEq, Array.mk.injEq, List.cons.injEq, and_true] at hv
      obtain ⟨rfl, rfl, rfl, rfl, rfl, rfl, rfl, rfl, rfl⟩ := hv
      obtain ⟨xk, xm, xn, xd, xa, xl, xc, rfl, rfl, rfl, rfl, rfl⟩ := hE.form5
      have HF := hide (fun (w' : World) (hb : Below w.heap.size w w') => headOk_any lo h _ f w' (IsFun.same h (Below.same hb) (Nat.le_refl _) hb.size _ _ ⟨aa, ca, _, _, _, _, _, rfl, hzz, haa, hE⟩))
      have HE := hide (fun (w' : World) (hb : Below w.heap.size w w') (hs : w.heap.size + 2 ≤ w'.heap.size) (hC : Ck w' (w.heap.size + 1) M) => checkRight_any lo w.heap.size (w.heap.size + 1) (by omega) h _ f.body w' M 1 (IsE.same (Below.same hb) (Nat.le_refl _) (Nat.le_refl _) h _ _ hE) (by omega) hC (by omega) (by omega) (by omega))
      have hD : ∀ o v, w.cell? ⟨b, o, none⟩ = some v → wr.cell? ⟨b, o, none⟩ = some v := fun o v hv => ((unhide HB).cell (p := ⟨b, o, none⟩) hbn).trans hv
      have e0 := hD _ _ d0
      have e1 := hD _ _ d1
      have e2 := hD _ _ d2
      have e3 := hD _ _ d3
      have e4 := hD _ _ d4
      have e5 := hD _ _ d5
      have e6 := hD _ _ d6
      have e7 := hD _ _ d7
      have e8 := hD _ _ d8
      have HTK := hide htk
      have HLT := hide ((unhide HX2).trans hlt)
      obtain ⟨vs, cp, rfl⟩ := own_slice hrow
      have HROW := hide hrow
      clear hcs hf htk hlt hzz haa hE hD d0 d1 d2 d3 d4 d5 d6 d7 d8 HX2
      go_wp2_with (first | (at_builtin; refine wpList_append_own _ rfl _ _ 23 rfl (w.heap.size + 2) 9 i0 (.string ⟨#[]⟩) 1 16 Tryz.underlying23 hi hz0 hz1 hz2 rfl (by decide) _ _ _ rfl ((hrow.alloc _).alloc _) ⟨wr.heap.size + 1, 0, none⟩ 1 1 [.string f.name] rfl rfl ?cn (by simp [Value.oneCell']) (by unfold maxLen; omega) (by omega) (by simp; omega) ?_; rotate_left; intro v2 w2 hown2 hgrow2 _; obtain ⟨g2, cap2, rfl⟩ := own_succ hown2; obtain ⟨hown3, hbb⟩ := own_next ((unhide HROW).alloc _) (by simp; omega) hown2 hgrow2; have hne : some wr.heap.size ≠ (Value.slice vs k cp).ownBlock := (fun e => by have := ((unhide HROW).lt _ e.symm).2; simp at this); have s0 : w2.cell? ⟨wr.heap.size, 0, none⟩ = some (.string f.name) := hgrow2.cell (by simp) hne; have s1 : w2.cell? ⟨wr.heap.size, 1, none⟩ = some (.bool f.pub) := hgrow2.cell (by simp) hne; have s2 : w2.cell? ⟨wr.heap.size, 2, none⟩ = some (.slice aa f.args.length ca) := hgrow2.cell (by simp) hne; have s3 : w2.cell? ⟨wr.heap.size, 3, none⟩ = some (.int .i64 f.type) := hgrow2.cell (by simp) hne; have s4 : w2.cell? ⟨wr.heap.size, 4, none⟩ = some (.int .i64 xk) := hgrow2.cell (by simp) hne; have s5 : w2.cell? ⟨wr.heap.size, 5, none⟩ = some (.int .i64 xm) := hgrow2.cell (by simp) hne; have s6 : w2.cell? ⟨wr.heap.size, 6, none⟩ = some (.string xn) := hgrow2.cell (by simp) hne; have s7 : w2.cell? ⟨wr.heap.size, 7, none⟩ = some (.string xd) := hgrow2.cell (by simp) hne; have s8 : w2.cell? ⟨wr.heap.size, 8, none⟩ = some (.slice xa xl xc) := hgrow2.cell (by simp) hne; have hbw : Below (w.heap.size + 2) wr w2 := ((Below.refl _ wr).alloc (by omega) _).trans hbb; have HO3 := hide hown3; have HBW := hide hbw; have hrs : wr.heap.size < w2.heap.size := (by have := hgrow2.size; simp at this; omega); clear hown2 hgrow2 hown3 hbb hbw hrow e0 e1 e2 e3 e4 e5 e6 e7 e8 hne))
      case cn =>
        have := cell_one_new (wr.alloc (.cells #[.string f.name, .bool f.pub, .slice aa f.args.length ca, .int .i64 f.type, .int .i64 xk, .int .i64 xm, .string xn, .string xd, .slice xa xl xc] 108)) (.string f.name) 9
        rw [alloc_size] at this
        exact this
      have HB2 := hide ((unhide HB).trans ((unhide HBW).mono (by omega)))
      refine (unhide HF w2 (unhide HB2)).mono ?_
      rintro r w3 ⟨rfl, hb3⟩
      have hB3 := (unhide HB2).trans (hb3.mono (unhide HB2).size)
      have t4 := (hb3.cell (p := ⟨wr.heap.size, 4, none⟩) hrs).trans s4
      have t5 := (hb3.cell (p := ⟨wr.heap.size, 5, none⟩) hrs).trans s5
      have t6 := (hb3.cell (p := ⟨wr.heap.size, 6, none⟩) hrs).trans s6
      have t7 := (hb3.cell (p := ⟨wr.heap.size, 7, none⟩) hrs).trans s7
      have t8 := (hb3.cell (p := ⟨wr.heap.size, 8, none⟩) hrs).trans s8
      have hC2 : Ck w2 (w.heap.size + 1) M := ⟨((unhide HBW).cell (p := ⟨w.heap.size + 1, 0, none⟩) (by show w.heap.size + 1 < _; omega)).trans (unhide HC).1, ((unhide HBW).frozen (p := ⟨w.heap.size + 1, 0, none⟩) (by show w.heap.size + 1 < _; omega)).trans (unhide HC).2⟩
      have hC3 := hC2.below hb3 (by omega)
      have hs3 : w.heap.size + 2 ≤ w3.heap.size := by have := hb3.size; omega
      have u0 := (hb3.cell (p := ⟨w.heap.size, 0, none⟩) (by show w.heap.size < _; omega)).trans (((unhide HBW).cell (p := ⟨w.heap.size, 0, none⟩) (by show w.heap.size < _; omega)).trans hc0)
      have u2 := (hb3.cell (p := ⟨w.heap.size, 2, none⟩) (by show w.heap.size < _; omega)).trans (((unhide HBW).cell (p := ⟨w.heap.size, 2, none⟩) (by show w.heap.size < _; omega)).trans hc2)
      have HROW3 := hide (own_kept (unhide HO3) hb3)
      have HB3 := hide hB3
      have HC3 := hide hC3
      clear hb3 hB3 hC2 hC3 s0 s1 s2 s3 s4 s5 s6 s7 s8 HB2 HBW HO3 HROW HC HB hc0 hc2 HF
      cases hhd : f.headB with
      | false =>
        have HR : Hid (R = false) := hide (by rw [unhide HLT, hhd]; rfl)
        go_wp2
        go_ret
        exact ⟨ret_bool (unhide HR).symm, unhide HB3⟩
      | true =>
      have HLT2 : Hid (R = (f.body.rightB M 1 && lateB us mn (N + f.body.nodes) (((fs.take k).map TF.name) ++ [f.name]) (fs.drop (k + 1)))) := hide (by rw [unhide HLT, hhd, right_from f.body N M hNM]; rfl)
      clear HLT
      go_wp2_with fail
      refine (unhide HE w3 (unhide HB3) hs3 (unhide HC3)).mono ?_
      rintro r w4 ⟨rfl, L', hC4, hL4, hG4⟩
      have HROW4 := hide (own_other (unhide HROW3) hG4 (by omega))
      have v0 : w4.cell? ⟨w.heap.size, 0, none⟩ = some (.slice a1 us.length k1) := hG4.cell u0 (by simp)
      have v2 : w4.cell? ⟨w.heap.size, 2, none⟩ = some (.slice a3 mn.length k3) := hG4.cell u2 (by simp)
      have hs4 : w.heap.size + 2 ≤ w4.heap.size := by have := hG4.size; omega
      have HB4 := hide (below_gr (unhide HB3) hG4 (by omega) (by omega))
      have HC4 := hide hC4
      have HL4 := hide hL4
      clear hC4 hL4 hG4 u0 u2 t4 t5 t6 t7 t8 HB3 HC3 HROW3 HE
      cases hrb : f.body.rightB M 1 with
      | false =>
        have HR : Hid (R = false) := hide (by rw [unhide HLT2, hrb]; rfl)
        go_wp2
        go_ret
        exact ⟨ret_bool (unhide HR).symm, unhide HB4⟩
      | true =>
      have hnd := (right_kid_yes hrb).1
      have HC5 : Hid (Ck w4 (w.heap.size + 1) ((M - f.body.nodes : Nat) : Int)) := hide (by
        have := unhide HL4 hrb
        rw [show ((M - f.body.nodes : Nat) : Int) = L' from by omega]
        exact unhide HC4)
      have HX5 : Hid (R = lateB us mn (N + f.body.nodes) ((fs.take (k + 1)).map TF.name) (fs.drop (k + 1))) := hide (by rw [unhide HLT2, hrb, unhide HTK, List.map_append]; rfl)
      have HR5 : Hid (w4.ownsRow (w.heap.size + 2) 9 1 (.slice (some ⟨g2, 0, none⟩) (k + 1) cap2) (k + 1) (((fs.take (k + 1)).map TF.name).map Value.string)) := hide (by rw [unhide HTK, List.map_append]; exact unhide HROW4)
      have hNM2 : N + f.body.nodes + (M - f.body.nodes) = 150 := by omega
      go_wp2
      go_roundw
      case rel => exact ⟨k + 1, N + f.body.nodes, M - f.body.nodes, by omega, by go_num, hNM2, unhide HR5, HX5, HC5, v0, v2, hs4, HB4⟩
      case measure => simp [intOf]; omega
    · have hek : k = fs.length := by omega
      subst hek
      rw [List.take_of_length_le (Nat.le_refl _)] at hrow HX2
      have HX3 : Hid (R = (mainsFrom N mn && (namesB us && namesB (fs.map TF.name)))) := hide (by rw [unhide HX2, List.drop_of_length_le (Nat.le_refl _), lateB])
      obtain ⟨vs, cp, rfl⟩ := own_slice hrow
      have HROW := hide hrow
      clear HX2 hrow HQ2
      go_wp2
      go_loopw [51] (fun i wq => ∃ j N M : Nat, j ≤ mn.length ∧ i = .int .i64 j ∧ N + M = 150 ∧ Hid (wq.ownsRow (w.heap.size + 2) 9 1 (.slice vs fs.length cp) fs.length ((fs.map TF.name).map Value.string)) ∧ Hid (R = (mainsFrom N (mn.drop j) && (namesB us && namesB (fs.map TF.name)))) ∧ Hid (Ck wq (w.heap.size + 1) M) ∧ wq.cell? ⟨w.heap.size, 0, none⟩ = some (.slice a1 us.length k1) ∧ w.heap.size + 2 ≤ wq.heap.size ∧ Hid (Below w.heap.size w wq)) (fun i _ => mn.length - (intOf i).toNat)
      case atStart => exact ⟨0, N, M, Nat.zero_le _, rfl, hNM, HROW, HX3, HC, hc0, hsz, HB⟩
      case round =>
        clear HROW HX3 HC hc0 hc2 hsz HB hNM
        obtain ⟨j, N, M, hj, rfl, hNM, HROW, HX4, HC, hc0, hsz, HB⟩ := hrel
        by_cases hp2 : j < mn.length
        · rcases (unhide HQ3) with hq | ⟨b, off, rfl, hbl, hbn, hcs⟩
          · rw [hq] at hp2; simp at hp2
          obtain ⟨c0, c1, c2, c3, c4, d0, d1, d2, d3, d4, hr⟩ := hcs j hp2
          have hma := mains_at mn N j hp2
          obtain ⟨e, he⟩ : ∃ e, mn[j] = e := ⟨_, rfl⟩
          rw [he] at hr hma
          obtain ⟨xk, xm, xn, xd, xa, xl, xc, rfl, rfl, rfl, rfl, rfl⟩ := hr.form5
          have HE := hide (fun (w' : World) (hb : Below w.heap.size w w') (hs : w.heap.size + 2 ≤ w'.heap.size) (hC : Ck w' (w.heap.size + 1) M) => checkRight_any lo w.heap.size (w.heap.size + 1) (by omega) h _ e w' M 1 (IsE.same (Below.same hb) (Nat.le_refl _) (Nat.le_refl _) h _ _ hr) (by omega) hC (by omega) (by omega) (by omega))
          have hD : ∀ o v, w.cell? ⟨b, o, none⟩ = some v → wr.cell? ⟨b, o, none⟩ = some v := fun o v hv => ((unhide HB).cell (p := ⟨b, o, none⟩) hbn).trans hv
          have e0 := hD _ _ d0
          have e1 := hD _ _ d1
          have e2 := hD _ _ d2
          have e3 := hD _ _ d3
          have e4 := hD _ _ d4
          have HMA : Hid (R = ((e.rightB M 1 && mainsFrom (N + e.nodes) (mn.drop (j + 1))) && (namesB us && namesB (fs.map TF.name)))) := hide (by rw [unhide HX4, hma, right_from e N M hNM])
          clear hcs he hma hr hD d0 d1 d2 d3 d4 HX4
          go_wp2_with fail
          refine (unhide HE _ ?hb ?hs ?hC).mono ?_
          case hb => exact (unhide HB).alloc (by omega) _
          case hs => simp; omega
          case hC => exact (unhide HC).below ((Below.refl _ _).alloc (Nat.le_refl _) _) (by omega)
          rintro r w4 ⟨rfl, L', hC4, hL4, hG4⟩
          have hG5 := gr_trans (World.grownBy_alloc wr (.cells #[.int .i64 xk, .int .i64 xm, .string xn, .string xd, .slice xa xl xc] 31) (some (w.heap.size + 1))) hG4
          have HROW4 := hide (own_other (unhide HROW) hG5 (by omega))
          have v0 : w4.cell? ⟨w.heap.size, 0, none⟩ = some (.slice a1 us.length k1) := hG5.cell hc0 (by simp)
          have hs4 : w.heap.size + 2 ≤ w4.heap.size := by have := hG5.size; omega
          have HB4 := hide (below_gr (unhide HB) hG5 (by omega) (by omega))
          have HC4 := hide hC4
          have HL4 := hide hL4
          clear hC4 hL4 hG4 hG5 e0 e1 e2 e3 e4 HB HC HROW HE hc0
          cases hrb : e.rightB M 1 with
          | false =>
            have HR : Hid (R = false) := hide (by rw [unhide HMA, hrb]; rfl)
            go_wp2
            go_ret
            exact ⟨ret_bool (unhide HR).symm, unhide HB4⟩
          | true =>
          have hnd := (right_kid_yes hrb).1
          have HC5 : Hid (Ck w4 (w.heap.size + 1) ((M - e.nodes : Nat) : Int)) := hide (by
            have := unhide HL4 hrb
            rw [show ((M - e.nodes : Nat) : Int) = L' from by omega]
            exact unhide HC4)
          have HX5 : Hid (R = (mainsFrom (N + e.nodes) (mn.drop (j + 1)) && (namesB us && namesB (fs.map TF.name)))) := hide (by rw [unhide HMA, hrb]; rfl)
          have hNM2 : N + e.nodes + (M - e.nodes) = 150 := by omega
          go_wp2
          go_roundw
          case rel => exact ⟨j + 1, N + e.nodes, M - e.nodes, by omega, by go_num, hNM2, HROW4, HX5, HC5, v0, hs4, HB4⟩
          case measure => simp [intOf]; omega
        · have HX5 : Hid (R = (namesB us && namesB (fs.map TF.name))) := hide (by rw [unhide HX4, List.drop_of_length_le (by omega), mainsFrom]; rfl)
          clear HX4 HC
          go_wp2_with fail
          refine (unhide HU _ (unhide HB)).mono ?_
          rintro r w5 ⟨rfl, hb5⟩
          have HROW5 := hide (own_kept (unhide HROW) hb5)
          have HB5 := hide ((unhide HB).trans (hb5.mono (unhide HB).size))
          clear hb5 HB HROW HU hc0
          cases hu : namesB us with
          | false =>
            have HR : Hid (R = false) := hide (by rw [unhide HX5, hu]; rfl)
            go_wp2
            go_ret
            exact ⟨ret_bool (unhide HR).symm, unhide HB5⟩
          | true =>
          have HR : Hid (R = namesB (fs.map TF.name)) := hide (by rw [unhide HX5, hu]; rfl)
          clear HX5 hu
          obtain ⟨va, vc, hve, hvc, hwd⟩ := own_wds (unhide HROW5) (by simp)
          rw [List.length_map] at hve hvc
          have hU := namesOk_any (w.heap.size + 2) va vc (fs.map TF.name) w5 hwd (by rw [List.length_map]; unfold maxLen; omega) (by rw [List.length_map]; exact hvc)
          rw [List.length_map, ← hve] at hU
          have HUU := hide hU
          clear hve hvc hwd hU
          go_wp2_with fail
          refine (unhide HUU).mono ?_
          rintro r w6 ⟨rfl, hb6⟩
          have HB6 := hide ((unhide HB5).trans (hb6.mono (unhide HB5).size))
          clear hb6
          go_wp2
          go_ret
          exact ⟨ret_bool (unhide HR).symm, unhide HB6⟩
end Go.Proofs.YtgmohnbjfemebaaGreatDoor
