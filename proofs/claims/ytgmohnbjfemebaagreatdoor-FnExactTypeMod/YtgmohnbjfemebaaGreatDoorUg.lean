/- The walk of spec.l2Fun. Conditions: the function can be read. -/
import Derived.Test.YtgmohnbjfemebaaGreatDoorUf
import Derived.Test.YtgmohnbjfemebaaGreatDoorUe
namespace Go.Proofs.YtgmohnbjfemebaaGreatDoor
open Go.RowKit Go.PlainAid

/-- What l2Fun says. -/
def TF.allB (f : TF) : Bool := nameB f.name.data.toList && (f.headB && f.body.ok)
theorem typeB_no {t : Int} (h : typeB t = false) : ((typeW t).toList == []) = true := by unfold typeB at h; simpa using h
theorem typeB_yes {t : Int} (h : typeB t = true) : ((typeW t).toList == []) = false := by unfold typeB at h; simpa using h
theorem head_eq (f : TF) : f.headB = (decide (f.args.length ≤ 4) && (typeB f.type && argsFrom [] f.args)) := by
  rw [args_eq]; rfl

set_option maxHeartbeats 2000000 in
theorem l2Fun_any (lo h : Nat) (v : Value) (f : TF) (w : World) (hF : IsFun w lo w.heap.size h v f) :
    Calls Tryz.prog 81 #[v] w fun r w' => r = .returned (.bool f.allB) ∧ Below w.heap.size w w' := by
  have HX : Hid (f.allB = (nameB f.name.data.toList && ((decide (f.args.length ≤ 4) && (typeB f.type && argsFrom [] f.args)) && f.body.ok))) := hide (by rw [TF.allB, head_eq])
  obtain ⟨nm, pub, args, ty, body⟩ := f
  obtain ⟨aa, ca, b0, b1, b2, b3, b4, rfl, ⟨hs1, hs2⟩, ha, hE⟩ := hF
  dsimp only at hs1 hs2 ha hE HX ⊢
  generalize TF.allB _ = R at HX ⊢
  unfold maxLen at hs1 hs2
  have HA := hide ha
  have HE := hide (fun (w' : World) (hb : Below w.heap.size w w') => l2Expr_any (l2Node_any LexNameS_any) lo h _ body w' (IsE.kept hb hb.size h _ _ hE))
  clear ha hE
  go_enter Tryz.func81, Tryz.ntmps81
  go_wp2_with fail
  refine (LexNameS_any _ _).mono ?_
  rintro r w2 ⟨rfl, hb2⟩
  have hB2 : Below w.heap.size w w2 := ((Below.refl _ w).alloc (Nat.le_refl _) _).trans (hb2.mono (by simp))
  have n1 : Blk w2 w.heap.size [Value.string nm, Value.bool pub, Value.slice aa args.length ca, Value.int .i64 ty, b0, b1, b2, b3, b4] := (Blk.new w [Value.string nm, Value.bool pub, Value.slice aa args.length ca, Value.int .i64 ty, b0, b1, b2, b3, b4] 108).below hb2 (by simp)
  have hS2 : w.heap.size < w2.heap.size := by have := hb2.size; rw [alloc_size] at this; omega
  have p2 := n1.cellAt (i := 2) rfl
  have p3 := n1.cellAt (i := 3) rfl
  have N1 := hide n1
  have HB2 := hide hB2
  have HS2 := hide hS2
  clear n1 hb2 hB2 hS2
  cases hn : nameB nm.data.toList with
  | false =>
    have HR : Hid (R = false) := hide (by rw [unhide HX, hn]; rfl)
    go_wp2
    go_ret
    exact ⟨ret_bool (unhide HR).symm, unhide HB2⟩
  | true =>
    by_cases h4 : 4 < args.length
    · have HR : Hid (R = false) := hide (by rw [unhide HX, decide_eq_false (by omega)]; simp)
      go_wp2
      go_ret
      exact ⟨ret_bool (unhide HR).symm, unhide HB2⟩
    have HX1 : Hid (R = ((typeB ty && argsFrom [] args) && body.ok)) := hide (by rw [unhide HX, hn, decide_eq_true (by omega)]; simp)
    clear HX
    go_wp2_with fail
    refine (TreeTypeS_any _ _).mono ?_
    rintro r w3 ⟨rfl, hb3⟩
    have hB3 : Below w.heap.size w w3 := (unhide HB2).trans (hb3.mono (unhide HB2).size)
    have n1 := (unhide N1).below hb3 (unhide HS2)
    have hS3 : w.heap.size < w3.heap.size := by have := hb3.size; have := unhide HS2; omega
    have p2 := n1.cellAt (i := 2) rfl
    have p4 := n1.cellAt (i := 4) rfl
    have p5 := n1.cellAt (i := 5) rfl
    have p6 := n1.cellAt (i := 6) rfl
    have p7 := n1.cellAt (i := 7) rfl
    have p8 := n1.cellAt (i := 8) rfl
    have N2 := hide n1
    have HB3 := hide hB3
    have HS3 := hide hS3
    clear n1 hb3 hB3 hS3 N1 HB2 HS2
    cases ht : typeB ty with
    | false =>
      have hte := typeB_no ht
      have HR : Hid (R = false) := hide (by rw [unhide HX1, ht]; rfl)
      go_wp2
      go_ret
      exact ⟨ret_bool (unhide HR).symm, unhide HB3⟩
    | true =>
      have hte := typeB_yes ht
      have HX2 : Hid (R = (argsFrom [] args && body.ok)) := hide (by rw [unhide HX1, ht]; rfl)
      clear HX1
      go_wp2_with fail
      refine (unhide HE _ (unhide HB3)).mono ?_
      rintro r w4 ⟨rfl, hb4⟩
      have hB4 : Below w.heap.size w w4 := (unhide HB3).trans (hb4.mono (unhide HB3).size)
      have n1 := (unhide N2).below hb4 (unhide HS3)
      have hS4 : w.heap.size < w4.heap.size := by have := hb4.size; have := unhide HS3; omega
      have p2 := n1.cellAt (i := 2) rfl
      have N4 := hide n1
      have HB4 := hide hB4
      have HS4 := hide hS4
      clear n1 hb4 hB4 hS4 N2 HB3 HS3 p4 p5 p6 p7 p8 p3
      cases hbo : body.ok with
      | false =>
        have HR : Hid (R = false) := hide (by rw [unhide HX2, hbo]; simp)
        go_wp2
        go_ret
        exact ⟨ret_bool (unhide HR).symm, unhide HB4⟩
      | true =>
        have HX3 : Hid (R = argsFrom [] args) := hide (by rw [unhide HX2, hbo]; simp)
        clear HX2
        go_wp2
        clear p2
        go_loopw [3] (fun i wr => ∃ k : Nat, k ≤ args.length ∧ i = .int .i64 k ∧ Hid (R = argsFrom (args.take k) (args.drop k)) ∧ wr.cell? ⟨w.heap.size, 2, none⟩ = some (.slice aa args.length ca) ∧ Hid (w.heap.size < wr.heap.size) ∧ Hid (Below w.heap.size w wr)) (fun i _ => args.length - (intOf i).toNat)
        case atStart => exact ⟨0, Nat.zero_le _, rfl, HX3, (unhide N4).cellAt (i := 2) rfl, HS4, HB4⟩
        case round =>
          clear HX3 N4 HS4 HB4
          obtain ⟨k, hk, rfl, HN, hc, HZ, HB⟩ := hrel
          by_cases hp : k < args.length
          · have hna := args_at args k hp
            rcases (unhide HA).kept (unhide HB) (unhide HB).size with hq | ⟨b, off, rfl, hbl, hbn, hcs⟩
            · rw [hq] at hp; simp at hp
            obtain ⟨c0, c1, d0, d1, hr⟩ := hcs k hp
            obtain ⟨x, hx⟩ : ∃ x, args[k]'hp = x := ⟨_, rfl⟩
            rw [hx] at hr hna
            have hv := hr.1
            simp only [Value.agg.injEq, Array.mk.injEq, List.cons.injEq, and_true] at hv
            obtain ⟨rfl, rfl⟩ := hv
            have HCS := hide (fun j hj => hcs j hj)
            have HNA := hide hna
            clear hcs hr hx hna
            go_wp2_with fail
            refine (LexNameS_any _ _).mono ?_
            rintro r w5 ⟨rfl, hb5⟩
            have hc5 := (hb5.cell (p := ⟨w.heap.size, 2, none⟩) (unhide HZ)).trans hc
            have e0 := (hb5.cell (p := ⟨b, off + k * 2, none⟩) hbn).trans d0
            have e1 := (hb5.cell (p := ⟨b, off + k * 2 + 1, none⟩) hbn).trans d1
            have HB5 := hide ((unhide HB).trans (hb5.mono (unhide HB).size))
            have HZ5 : Hid (w.heap.size < w5.heap.size) := hide (by have := unhide HZ; have := hb5.size; omega)
            have HC5 : Hid (∀ j (hj : j < args.length), w5.cell? ⟨b, off + j * 2, none⟩ = some (.string args[j].name)) := hide (fun j hj => by
              obtain ⟨c0, c1, d0, d1, hr⟩ := unhide HCS j hj
              have hv := hr.1
              simp only [Value.agg.injEq, Array.mk.injEq, List.cons.injEq, and_true] at hv
              rw [hv.1] at d0
              exact (hb5.cell (p := ⟨b, off + j * 2, none⟩) hbn).trans d0)
            have hbn5 : b < w5.heap.size := by have := hb5.size; omega
            clear hb5 hc d0 d1 HB HZ HCS hbn
            cases hnx : nameB x.name.data.toList with
            | false =>
              have HR : Hid (R = false) := hide (by rw [unhide HN, unhide HNA, hnx]; rfl)
              go_wp2
              go_ret
              exact ⟨ret_bool (unhide HR).symm, unhide HB5⟩
            | true =>
              go_wp2_with fail
              refine (TreeTypeS_any _ _).mono ?_
              rintro r w6 ⟨rfl, hb6⟩
              have hc6 := (hb6.cell (p := ⟨w.heap.size, 2, none⟩) (unhide HZ5)).trans hc5
              have g0 := (hb6.cell (p := ⟨b, off + k * 2, none⟩) hbn5).trans e0
              have HB6 := hide ((unhide HB5).trans (hb6.mono (unhide HB5).size))
              have HZ6 : Hid (w.heap.size < w6.heap.size) := hide (by have := unhide HZ5; have := hb6.size; omega)
              have HC6 : Hid (∀ j (hj : j < args.length), w6.cell? ⟨b, off + j * 2, none⟩ = some (.string args[j].name)) := hide (fun j hj => (hb6.cell (p := ⟨b, off + j * 2, none⟩) hbn5).trans (unhide HC5 j hj))
              clear hb6 hc5 e0 e1 HB5 HZ5 HC5 hbn5
              cases htx : typeB x.type with
              | false =>
                have hte := typeB_no htx
                have HR : Hid (R = false) := hide (by rw [unhide HN, unhide HNA, hnx, htx]; rfl)
                go_wp2
                go_ret
                exact ⟨ret_bool (unhide HR).symm, unhide HB6⟩
              | true =>
                have hte := typeB_yes htx
                have HA2 : Hid (R = (!hasB ((args.take k).map TA.name) x.name && argsFrom (args.take (k + 1)) (args.drop (k + 1)))) := hide (by rw [unhide HN, unhide HNA, hnx, htx]; rfl)
                clear HN HNA
                go_wp2
                clear hte
                go_loopw [4] (fun i wr => ∃ j n : Nat, j ≤ k ∧ i = .int .i64 j ∧ Hid (hasB ((args.take j).map TA.name) x.name = false) ∧ wr = w6.drewN n) (fun i _ => k - (intOf i).toNat)
                case atStart => exact ⟨0, 0, Nat.zero_le _, rfl, hide rfl, rfl⟩
                case round =>
                  obtain ⟨j, n, hj, rfl, HH, rfl⟩ := hrel
                  by_cases hjk : j < k
                  · have hjl : j < args.length := by omega
                    have hcj := unhide HC6 j hjl
                    have hst := has_take (args.map TA.name) x.name j (by simpa using hjl)
                    have hmo := has_more (args.map TA.name) x.name j k hjk (by simpa using hjl)
                    rw [List.getElem_map] at hst hmo
                    obtain ⟨y, hy⟩ : ∃ y, (args[j]'hjl).name = y := ⟨_, rfl⟩
                    rw [hy] at hcj hst hmo
                    rw [← List.map_take, ← List.map_take] at hst
                    rw [← List.map_take] at hmo
                    have HST := hide hst
                    have HMO := hide hmo
                    clear hst hmo hy
                    cases he : (y.toList == x.name.toList) with
                    | true =>
                      have HF : Hid (R = false) := hide (by rw [unhide HA2, unhide HMO he]; rfl)
                      go_wp2
                      go_quiet (fail)
                      go_wp2
                      go_ret
                      exact ⟨ret_bool (unhide HF).symm, below_drewN (below_drewN (unhide HB6) _) _⟩
                    | false =>
                      have HH2 : Hid (hasB ((args.take (j + 1)).map TA.name) x.name = false) := hide (by rw [unhide HST, unhide HH, he]; rfl)
                      go_wp2
                      go_quiet (fail)
                      go_wp2
                      go_roundw
                      case rel => exact ⟨j + 1, _, by omega, by go_num, HH2, rfl⟩
                      case measure => simp [intOf]; omega
                  · have HN3 : Hid (R = argsFrom (args.take (k + 1)) (args.drop (k + 1))) := hide (by
                      have e : j = k := by omega
                      have := unhide HH
                      rw [e] at this
                      rw [unhide HA2, this]; rfl)
                    go_wp2
                    go_roundw
                    case rel => exact ⟨k + 1, by omega, by go_num, HN3, hc6, HZ6, hide (below_drewN (unhide HB6) _)⟩
                    case measure => simp [intOf]; omega
          · have HF : Hid (R = true) := hide (by rw [unhide HN, List.drop_of_length_le (by omega)]; simp [argsFrom])
            go_wp2
            go_ret
            exact ⟨ret_bool (unhide HF).symm, unhide HB⟩
end Go.Proofs.YtgmohnbjfemebaaGreatDoor
