/- Functions of objects that are right: the walk of impl.objFunOk. Conditions: the function can be read. -/
import Derived.Test.YtifcfjjlgehopaaBjc
namespace Go.Proofs.Ytifcfjjlgehopaa
open Go.RowKit Go.PlainAid

set_option maxHeartbeats 4000000 in
theorem objFunOk_any (lo : Nat) (v : Value) (f : TC) (w : World) (hS : IsCf w lo w.heap.size v f) :
    Calls Try.prog 39 #[v] w fun r w' => r = .returned (.bool f.ok) ∧ Below w.heap.size w w' := by
  have HX : Hid (f.ok = (nmB f.name && (typesB f.args f.type && (plB f.slots && (decide (f.code.length ≤ 460) && f.code.all TI.ok))))) := hide rfl
  obtain ⟨nm, pub, args, ty, sl, code⟩ := f
  obtain ⟨aa, ca, ba, cb, rfl, ⟨hs1, hs2, hs3⟩, ha, hb⟩ := hS
  dsimp only at hs1 hs2 hs3 ha hb HX ⊢
  generalize TC.ok _ = R at HX ⊢
  have HS2 := hide hs2
  unfold maxLen at hs1 hs2 hs3
  obtain ⟨W, hW⟩ : ∃ W, W = w.alloc (.cells #[.string nm, .bool pub, .slice aa args.length ca, .int .i64 ty, .int .i64 sl, .slice ba code.length cb] 78) := ⟨_, rfl⟩
  have hBW : Below w.heap.size w W := by rw [hW]; exact (Below.refl _ _).alloc (Nat.le_refl _) _
  have hb1 : Blk W w.heap.size [.string nm, .bool pub, .slice aa args.length ca, .int .i64 ty, .int .i64 sl, .slice ba code.length cb] := by rw [hW]; exact Blk.new w [.string nm, .bool pub, .slice aa args.length ca, .int .i64 ty, .int .i64 sl, .slice ba code.length cb] 78
  have hlt := hide (show w.heap.size < W.heap.size by rw [hW]; simp)
  have HBW := hide hBW
  have HA := hide (ha.kept hBW hBW.size)
  have HC := hide (hb.kept hBW hBW.size)
  have HB1 := hide hb1
  clear ha hb hBW hb1
  go_enter Try.func39, Try.ntmps39
  go_wp2_with fail
  rw [← hW]
  clear hW
  refine (LexNameI_any _ _).mono ?_
  rintro r w2 ⟨rfl, hb2⟩
  have HC2 := hide hb2
  have p2 : w2.cell? ⟨w.heap.size, 2, none⟩ = some (Value.slice aa args.length ca) := (hb2.cell (p := ⟨w.heap.size, 2, none⟩) (unhide hlt)).trans ((unhide HB1).1 2)
  have p3 : w2.cell? ⟨w.heap.size, 3, none⟩ = some (Value.int .i64 ty) := (hb2.cell (p := ⟨w.heap.size, 3, none⟩) (unhide hlt)).trans ((unhide HB1).1 3)
  have p4 : w2.cell? ⟨w.heap.size, 4, none⟩ = some (Value.int .i64 sl) := (hb2.cell (p := ⟨w.heap.size, 4, none⟩) (unhide hlt)).trans ((unhide HB1).1 4)
  have p5 : w2.cell? ⟨w.heap.size, 5, none⟩ = some (Value.slice ba code.length cb) := (hb2.cell (p := ⟨w.heap.size, 5, none⟩) (unhide hlt)).trans ((unhide HB1).1 5)
  have p0 : w2.cell? ⟨w.heap.size, 0, none⟩ = some (.string nm) := (hb2.cell (p := ⟨w.heap.size, 0, none⟩) (unhide hlt)).trans ((unhide HB1).1 0)
  cases hn : nameB nm.data.toList with
  | true =>
    have HX1 : Hid (R = (typesB args ty && (plB sl && (decide (code.length ≤ 460) && code.all TI.ok)))) := hide (by rw [unhide HX]; unfold nmB; rw [hn]; rfl)
    clear HX hn p0
    have HQ1 := hide (faceTypesOk_any lo aa ca args ty w2 ((unhide HA).kept hb2 hb2.size) (unhide HS2))
    clear hb2
    go_wp2_with fail
    refine (unhide HQ1).mono ?_
    rintro r w3 ⟨rfl, rfl⟩
    clear HQ1
    cases ht : typesB args ty with
    | false =>
      have HR : Hid (R = false) := hide (by rw [unhide HX1, ht]; rfl)
      go_wp2
      go_ret
      exact ⟨ret_bool (unhide HR).symm, (unhide HBW).trans ((unhide HC2).mono (unhide HBW).size)⟩
    | true =>
      have HX2 : Hid (R = (plB sl && (decide (code.length ≤ 460) && code.all TI.ok))) := hide (by rw [unhide HX1, ht]; rfl)
      clear HX1 ht
      go_wp2_with fail
      refine (objPlaceOk_any _ _).mono ?_
      rintro r w3 ⟨rfl, rfl⟩
      cases hs : plB sl with
      | false =>
        have HS0 := hide hs
        have HR : Hid (R = false) := hide (by rw [unhide HX2, unhide HS0]; rfl)
        go_wp2
        go_ret
        exact ⟨ret_bool (unhide HR).symm, (unhide HBW).trans ((unhide HC2).mono (unhide HBW).size)⟩
      | true =>
        have HS0 := hide hs
        by_cases g3 : 460 < code.length
        · have HR : Hid (R = false) := hide (by rw [unhide HX2]; rw [decide_eq_false (p := code.length ≤ 460) (by omega)]; cases plB sl <;> rfl)
          go_wp2
          go_ret
          exact ⟨ret_bool (unhide HR).symm, (unhide HBW).trans ((unhide HC2).mono (unhide HBW).size)⟩
        have HX3 : Hid (R = code.all TI.ok) := hide (by rw [unhide HX2, unhide HS0, decide_eq_true (p := code.length ≤ 460) (by omega)]; rfl)
        clear HX2
        go_wp2
        clear p2 p3 p4 p5
        go_loopw [35] (fun  i wr => ∃ k : Nat, k ≤ code.length ∧ i = .int .i64 k ∧ Hid (∀ j (hj : j < code.length), j < k → TI.ok code[j] = true) ∧ Hid (Below W.heap.size W wr)) (fun  i _ => code.length - (intOf i).toNat)
        case atStart => exact ⟨0, Nat.zero_le _, rfl, hide (fun j _ hj => absurd hj (Nat.not_lt_zero _)), HC2⟩
        case round =>
          obtain ⟨k, hk, rfl, HI, HB⟩ := hrel
          have p2 : wr.cell? ⟨w.heap.size, 2, none⟩ = some (Value.slice aa args.length ca) := ((unhide HB).cell (p := ⟨w.heap.size, 2, none⟩) (unhide hlt)).trans ((unhide HB1).1 2)
          have p3 : wr.cell? ⟨w.heap.size, 3, none⟩ = some (Value.int .i64 ty) := ((unhide HB).cell (p := ⟨w.heap.size, 3, none⟩) (unhide hlt)).trans ((unhide HB1).1 3)
          have p4 : wr.cell? ⟨w.heap.size, 4, none⟩ = some (Value.int .i64 sl) := ((unhide HB).cell (p := ⟨w.heap.size, 4, none⟩) (unhide hlt)).trans ((unhide HB1).1 4)
          have p5 : wr.cell? ⟨w.heap.size, 5, none⟩ = some (Value.slice ba code.length cb) := ((unhide HB).cell (p := ⟨w.heap.size, 5, none⟩) (unhide hlt)).trans ((unhide HB1).1 5)
          by_cases hp : k < code.length
          · rcases (unhide HC).kept (unhide HB) (unhide HB).size with h | ⟨b, off, rfl, hbl, hbn, hc⟩
            · rw [h] at hp; simp at hp
            obtain ⟨c0, c1, d0, d1, hr⟩ := hc k hp
            have HT1 := hide (fun h => allI_no (zs := code) hp h)
            have HT2 := hide (fun (h : TI.ok (code[k]'hp) = true) (j : Nat) (hj : j < code.length) (hjk : j < k + 1) => show TI.ok code[j] = true from by
              by_cases e : j = k
              · subst e; exact h
              · exact unhide HI j hj (by omega))
            obtain ⟨x, hx⟩ : ∃ x, code[k]'hp = x := ⟨_, rfl⟩
            rw [hx] at hr HT1 HT2
            obtain ⟨s, t, rfl, rfl⟩ := IsCi.form hr
            have HQ := hide (fun (X : World) => objInsOk_any _ x lo wr.heap.size X hr)
            clear hc hx HI hr
            go_wp2_with fail
            refine (unhide HQ _).mono ?_
            rintro r w4 ⟨rfl, hb4⟩
            have HB4 := hide (((unhide HB).alloc (unhide HB).size _).trans (hb4.mono (by have := (unhide HB).size; simp; omega)))
            clear hb4 p2 p3 p4 p5 d0 d1 HQ
            cases hx : TI.ok x with
            | false =>
              have HR : Hid (R = false) := hide (by rw [unhide HX3, unhide HT1 hx])
              go_wp2
              go_ret
              exact ⟨ret_bool (unhide HR).symm, (unhide HBW).trans ((unhide HB4).mono (unhide HBW).size)⟩
            | true =>
              have HI2 := hide (unhide HT2 hx)
              go_wp2
              go_roundw
              case rel => exact ⟨k + 1, by omega, by go_num, HI2, HB4⟩
              case measure => simp [intOf]; omega
          · have HR : Hid (R = true) := hide (by rw [unhide HX3]; exact allI_yes (fun j hj => unhide HI j hj (by omega)))
            go_wp2
            go_ret
            exact ⟨ret_bool (unhide HR).symm, (unhide HBW).trans ((unhide HB).mono (unhide HBW).size)⟩
  | false =>
    cases hm : (nm.toList == [109, 97, 105, 110]) with
    | true =>
      have HX1 : Hid (R = (typesB args ty && (plB sl && (decide (code.length ≤ 460) && code.all TI.ok)))) := hide (by rw [unhide HX]; unfold nmB; rw [hm, Bool.or_true]; rfl)
      clear HX hn
      have HQ1 := hide (faceTypesOk_any lo aa ca args ty w2 ((unhide HA).kept hb2 hb2.size) (unhide HS2))
      clear hb2
      go_wp2_with fail
      refine (unhide HQ1).mono ?_
      rintro r w3 ⟨rfl, rfl⟩
      clear HQ1
      cases ht : typesB args ty with
      | false =>
        have HR : Hid (R = false) := hide (by rw [unhide HX1, ht]; rfl)
        go_wp2
        go_ret
        exact ⟨ret_bool (unhide HR).symm, (unhide HBW).trans ((unhide HC2).mono (unhide HBW).size)⟩
      | true =>
        have HX2 : Hid (R = (plB sl && (decide (code.length ≤ 460) && code.all TI.ok))) := hide (by rw [unhide HX1, ht]; rfl)
        clear HX1 ht
        go_wp2_with fail
        refine (objPlaceOk_any _ _).mono ?_
        rintro r w3 ⟨rfl, rfl⟩
        cases hs : plB sl with
        | false =>
          have HS0 := hide hs
          have HR : Hid (R = false) := hide (by rw [unhide HX2, unhide HS0]; rfl)
          go_wp2
          go_ret
          exact ⟨ret_bool (unhide HR).symm, (unhide HBW).trans ((unhide HC2).mono (unhide HBW).size)⟩
        | true =>
          have HS0 := hide hs
          by_cases g3 : 460 < code.length
          · have HR : Hid (R = false) := hide (by rw [unhide HX2]; rw [decide_eq_false (p := code.length ≤ 460) (by omega)]; cases plB sl <;> rfl)
            go_wp2
            go_ret
            exact ⟨ret_bool (unhide HR).symm, (unhide HBW).trans ((unhide HC2).mono (unhide HBW).size)⟩
          have HX3 : Hid (R = code.all TI.ok) := hide (by rw [unhide HX2, unhide HS0, decide_eq_true (p := code.length ≤ 460) (by omega)]; rfl)
          clear HX2
          go_wp2
          clear p2 p3 p4 p5
          go_loopw [35] (fun  i wr => ∃ k : Nat, k ≤ code.length ∧ i = .int .i64 k ∧ Hid (∀ j (hj : j < code.length), j < k → TI.ok code[j] = true) ∧ Hid (Below W.heap.size W wr)) (fun  i _ => code.length - (intOf i).toNat)
          case atStart => exact ⟨0, Nat.zero_le _, rfl, hide (fun j _ hj => absurd hj (Nat.not_lt_zero _)), HC2⟩
          case round =>
            obtain ⟨k, hk, rfl, HI, HB⟩ := hrel
            have p2 : wr.cell? ⟨w.heap.size, 2, none⟩ = some (Value.slice aa args.length ca) := ((unhide HB).cell (p := ⟨w.heap.size, 2, none⟩) (unhide hlt)).trans ((unhide HB1).1 2)
            have p3 : wr.cell? ⟨w.heap.size, 3, none⟩ = some (Value.int .i64 ty) := ((unhide HB).cell (p := ⟨w.heap.size, 3, none⟩) (unhide hlt)).trans ((unhide HB1).1 3)
            have p4 : wr.cell? ⟨w.heap.size, 4, none⟩ = some (Value.int .i64 sl) := ((unhide HB).cell (p := ⟨w.heap.size, 4, none⟩) (unhide hlt)).trans ((unhide HB1).1 4)
            have p5 : wr.cell? ⟨w.heap.size, 5, none⟩ = some (Value.slice ba code.length cb) := ((unhide HB).cell (p := ⟨w.heap.size, 5, none⟩) (unhide hlt)).trans ((unhide HB1).1 5)
            by_cases hp : k < code.length
            · rcases (unhide HC).kept (unhide HB) (unhide HB).size with h | ⟨b, off, rfl, hbl, hbn, hc⟩
              · rw [h] at hp; simp at hp
              obtain ⟨c0, c1, d0, d1, hr⟩ := hc k hp
              have HT1 := hide (fun h => allI_no (zs := code) hp h)
              have HT2 := hide (fun (h : TI.ok (code[k]'hp) = true) (j : Nat) (hj : j < code.length) (hjk : j < k + 1) => show TI.ok code[j] = true from by
                by_cases e : j = k
                · subst e; exact h
                · exact unhide HI j hj (by omega))
              obtain ⟨x, hx⟩ : ∃ x, code[k]'hp = x := ⟨_, rfl⟩
              rw [hx] at hr HT1 HT2
              obtain ⟨s, t, rfl, rfl⟩ := IsCi.form hr
              have HQ := hide (fun (X : World) => objInsOk_any _ x lo wr.heap.size X hr)
              clear hc hx HI hr
              go_wp2_with fail
              refine (unhide HQ _).mono ?_
              rintro r w4 ⟨rfl, hb4⟩
              have HB4 := hide (((unhide HB).alloc (unhide HB).size _).trans (hb4.mono (by have := (unhide HB).size; simp; omega)))
              clear hb4 p2 p3 p4 p5 d0 d1 HQ
              cases hx : TI.ok x with
              | false =>
                have HR : Hid (R = false) := hide (by rw [unhide HX3, unhide HT1 hx])
                go_wp2
                go_ret
                exact ⟨ret_bool (unhide HR).symm, (unhide HBW).trans ((unhide HB4).mono (unhide HBW).size)⟩
              | true =>
                have HI2 := hide (unhide HT2 hx)
                go_wp2
                go_roundw
                case rel => exact ⟨k + 1, by omega, by go_num, HI2, HB4⟩
                case measure => simp [intOf]; omega
            · have HR : Hid (R = true) := hide (by rw [unhide HX3]; exact allI_yes (fun j hj => unhide HI j hj (by omega)))
              go_wp2
              go_ret
              exact ⟨ret_bool (unhide HR).symm, (unhide HBW).trans ((unhide HB).mono (unhide HBW).size)⟩
    | false =>
      clear hb2
      have HR : Hid (R = false) := hide (by rw [unhide HX]; unfold nmB; rw [hn, hm]; rfl)
      go_wp2
      go_ret
      exact ⟨ret_bool (unhide HR).symm, (unhide HBW).trans ((unhide HC2).mono (unhide HBW).size)⟩
end Go.Proofs.Ytifcfjjlgehopaa
