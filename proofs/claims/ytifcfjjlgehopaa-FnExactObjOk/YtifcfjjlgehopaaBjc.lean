/- Functions of objects that are right: the walk of spec.l8Fun. Conditions: the function can be read. -/
import Derived.Test.YtifcfjjlgehopaaBjb
import Derived.Test.YtifcfjjlgehopaaFf
import Derived.Test.YtifcfjjlgehopaaCe
namespace Go.Proofs.Ytifcfjjlgehopaa
open Go.RowKit Go.PlainAid

/-- A function that may stand in an object. -/
def TC.ok (f : TC) : Bool := nmB f.name && (typesB f.args f.type && (plB f.slots && (decide (f.code.length ≤ 460) && f.code.all TI.ok)))
theorem allI_no {zs : List TI} {k : Nat} (hk : k < zs.length) (h : TI.ok zs[k] = false) : zs.all TI.ok = false := by
  rw [List.all_eq_false]
  exact ⟨_, List.getElem_mem hk, by rw [h]; simp⟩
theorem allI_yes {zs : List TI} (h : ∀ j (hj : j < zs.length), TI.ok zs[j] = true) : zs.all TI.ok = true := by
  rw [List.all_eq_true]
  intro x hx
  obtain ⟨j, hj, rfl⟩ := List.getElem_of_mem hx
  exact h j hj

set_option maxHeartbeats 4000000 in
theorem l8Fun_any (lo : Nat) (v : Value) (f : TC) (w : World) (hS : IsCf w lo w.heap.size v f) :
    Calls Try.prog 35 #[v] w fun r w' => r = .returned (.bool f.ok) ∧ Below w.heap.size w w' := by
  have HX : Hid (f.ok = (nmB f.name && (typesB f.args f.type && (plB f.slots && (decide (f.code.length ≤ 460) && f.code.all TI.ok))))) := hide rfl
  obtain ⟨nm, pub, args, ty, sl, code⟩ := f
  obtain ⟨aa, ca, ba, cb, rfl, ⟨hs1, hs2, hs3⟩, ha, hb⟩ := hS
  dsimp only at hs1 hs2 hs3 ha hb HX ⊢
  generalize TC.ok _ = R at HX ⊢
  unfold maxLen at hs1 hs2 hs3
  obtain ⟨W, hW⟩ : ∃ W, W = w.alloc (.cells #[.string nm, .bool pub, .slice aa args.length ca, .int .i64 ty, .int .i64 sl, .slice ba code.length cb] 78) := ⟨_, rfl⟩
  have hBW : Below w.heap.size w W := by rw [hW]; exact (Below.refl _ _).alloc (Nat.le_refl _) _
  have hb1 : Blk W w.heap.size [.string nm, .bool pub, .slice aa args.length ca, .int .i64 ty, .int .i64 sl, .slice ba code.length cb] := by rw [hW]; exact Blk.new w [.string nm, .bool pub, .slice aa args.length ca, .int .i64 ty, .int .i64 sl, .slice ba code.length cb] 78
  have hlt := hide (show w.heap.size < W.heap.size by rw [hW]; simp)
  have HBW := hide hBW
  have HA := hide (ha.kept hBW hBW.size)
  have HC := hide (hb.kept hBW hBW.size)
  have HB1 := hide hb1
  clear ha hb hBW hb1
  go_enter Try.func35, Try.ntmps35
  go_wp2_with fail
  rw [← hW]
  clear hW
  refine (l8Name_any _ _).mono ?_
  rintro r w2 ⟨rfl, hb2⟩
  have HC2 := hide hb2
  have p2 : w2.cell? ⟨w.heap.size, 2, none⟩ = some (Value.slice aa args.length ca) := (hb2.cell (p := ⟨w.heap.size, 2, none⟩) (unhide hlt)).trans ((unhide HB1).1 2)
  have p3 : w2.cell? ⟨w.heap.size, 3, none⟩ = some (Value.int .i64 ty) := (hb2.cell (p := ⟨w.heap.size, 3, none⟩) (unhide hlt)).trans ((unhide HB1).1 3)
  have p4 : w2.cell? ⟨w.heap.size, 4, none⟩ = some (Value.int .i64 sl) := (hb2.cell (p := ⟨w.heap.size, 4, none⟩) (unhide hlt)).trans ((unhide HB1).1 4)
  have p5 : w2.cell? ⟨w.heap.size, 5, none⟩ = some (Value.slice ba code.length cb) := (hb2.cell (p := ⟨w.heap.size, 5, none⟩) (unhide hlt)).trans ((unhide HB1).1 5)
  clear hb2
  cases hn : nmB nm with
  | false =>
    have HR : Hid (R = false) := hide (by rw [unhide HX, hn]; rfl)
    go_wp2
    go_ret
    exact ⟨ret_bool (unhide HR).symm, (unhide HBW).trans ((unhide HC2).mono (unhide HBW).size)⟩
  | true =>
    have HX1 : Hid (R = (typesB args ty && (plB sl && (decide (code.length ≤ 460) && code.all TI.ok)))) := hide (by rw [unhide HX, hn]; rfl)
    clear HX hn
    by_cases h4 : 4 < args.length
    · have HR : Hid (R = false) := hide (by rw [unhide HX1]; unfold typesB; rw [decide_eq_false (p := args.length ≤ 4) (by omega)]; rfl)
      go_wp2
      go_ret
      exact ⟨ret_bool (unhide HR).symm, (unhide HBW).trans ((unhide HC2).mono (unhide HBW).size)⟩
    have HX2 : Hid (R = ((typF ty && args.all typF) && (plB sl && (decide (code.length ≤ 460) && code.all TI.ok)))) := hide (by rw [unhide HX1]; unfold typesB; rw [decide_eq_true (p := args.length ≤ 4) (by omega)]; rfl)
    clear HX1
    go_wp2_with fail
    refine (TreeTypeS_any _ _).mono ?_
    rintro r w3 ⟨rfl, hb3⟩
    have HC3 := hide ((unhide HC2).trans (hb3.mono (unhide HC2).size))
    clear p2 p3 p4 p5 hb3
    have p2 : w3.cell? ⟨w.heap.size, 2, none⟩ = some (Value.slice aa args.length ca) := ((unhide HC3).cell (p := ⟨w.heap.size, 2, none⟩) (unhide hlt)).trans ((unhide HB1).1 2)
    have p3 : w3.cell? ⟨w.heap.size, 3, none⟩ = some (Value.int .i64 ty) := ((unhide HC3).cell (p := ⟨w.heap.size, 3, none⟩) (unhide hlt)).trans ((unhide HB1).1 3)
    have p4 : w3.cell? ⟨w.heap.size, 4, none⟩ = some (Value.int .i64 sl) := ((unhide HC3).cell (p := ⟨w.heap.size, 4, none⟩) (unhide hlt)).trans ((unhide HB1).1 4)
    have p5 : w3.cell? ⟨w.heap.size, 5, none⟩ = some (Value.slice ba code.length cb) := ((unhide HC3).cell (p := ⟨w.heap.size, 5, none⟩) (unhide hlt)).trans ((unhide HB1).1 5)
    cases ht : typF ty with
    | false =>
      have hte := typF_no ht
      have HR : Hid (R = false) := hide (by rw [unhide HX2, ht]; rfl)
      go_wp2
      go_ret
      exact ⟨ret_bool (unhide HR).symm, (unhide HBW).trans ((unhide HC3).mono (unhide HBW).size)⟩
    | true =>
      have hte := typF_yes ht
      have HX3 : Hid (R = (args.all typF && (plB sl && (decide (code.length ≤ 460) && code.all TI.ok)))) := hide (by rw [unhide HX2, ht]; rfl)
      clear HX2
      by_cases g1 : sl < 0
      · have HR : Hid (R = false) := hide (by rw [unhide HX3]; unfold plB; rw [decide_eq_false (p := (0 : Int) ≤ sl) (by omega)]; cases args.all typF <;> rfl)
        go_wp2
        go_ret
        exact ⟨ret_bool (unhide HR).symm, (unhide HBW).trans ((unhide HC3).mono (unhide HBW).size)⟩
      by_cases g2 : 1000 < sl
      · have HR : Hid (R = false) := hide (by rw [unhide HX3]; unfold plB; rw [decide_eq_false (p := sl ≤ 1000) (by omega)]; cases args.all typF <;> simp)
        go_wp2
        go_ret
        exact ⟨ret_bool (unhide HR).symm, (unhide HBW).trans ((unhide HC3).mono (unhide HBW).size)⟩
      by_cases g3 : 460 < code.length
      · have HR : Hid (R = false) := hide (by rw [unhide HX3]; rw [decide_eq_false (p := code.length ≤ 460) (by omega)]; cases args.all typF <;> simp)
        go_wp2
        go_ret
        exact ⟨ret_bool (unhide HR).symm, (unhide HBW).trans ((unhide HC3).mono (unhide HBW).size)⟩
      have HX4 : Hid (R = (args.all typF && code.all TI.ok)) := hide (by rw [unhide HX3]; unfold plB; rw [decide_eq_true (p := (0 : Int) ≤ sl) (by omega), decide_eq_true (p := sl ≤ 1000) (by omega), decide_eq_true (p := code.length ≤ 460) (by omega)]; rfl)
      clear HX3
      go_wp2
      clear p2 p3 p4 p5
      go_loopw [3] (fun i wr => ∃ k : Nat, k ≤ args.length ∧ i = .int .i64 k ∧ Hid (∀ j (hj : j < args.length), j < k → typF args[j] = true) ∧ Hid (Below W.heap.size W wr)) (fun i _ => args.length - (intOf i).toNat)
      case atStart => exact ⟨0, Nat.zero_le _, rfl, hide (fun j _ hj => absurd hj (Nat.not_lt_zero _)), HC3⟩
      case round =>
        obtain ⟨k, hk, rfl, HI, HB⟩ := hrel
        have p2 : wr.cell? ⟨w.heap.size, 2, none⟩ = some (Value.slice aa args.length ca) := ((unhide HB).cell (p := ⟨w.heap.size, 2, none⟩) (unhide hlt)).trans ((unhide HB1).1 2)
        have p3 : wr.cell? ⟨w.heap.size, 3, none⟩ = some (Value.int .i64 ty) := ((unhide HB).cell (p := ⟨w.heap.size, 3, none⟩) (unhide hlt)).trans ((unhide HB1).1 3)
        have p4 : wr.cell? ⟨w.heap.size, 4, none⟩ = some (Value.int .i64 sl) := ((unhide HB).cell (p := ⟨w.heap.size, 4, none⟩) (unhide hlt)).trans ((unhide HB1).1 4)
        have p5 : wr.cell? ⟨w.heap.size, 5, none⟩ = some (Value.slice ba code.length cb) := ((unhide HB).cell (p := ⟨w.heap.size, 5, none⟩) (unhide hlt)).trans ((unhide HB1).1 5)
        by_cases hp : k < args.length
        · rcases (unhide HA).kept (unhide HB) (unhide HB).size with h | ⟨b, off, rfl, hbl, hbn, hc⟩
          · rw [h] at hp; simp at hp
          have hck := hc k hp
          have HT1 := hide (fun h => allF_no (zs := args) hp h)
          have HT2 := hide (fun (h : typF (args[k]'hp) = true) (j : Nat) (hj : j < args.length) (hjk : j < k + 1) => show typF args[j] = true from by
            by_cases e : j = k
            · subst e; exact h
            · exact unhide HI j hj (by omega))
          obtain ⟨x, hx⟩ : ∃ x, args[k]'hp = x := ⟨_, rfl⟩
          rw [hx] at hck HT1 HT2
          clear hc hx HI
          go_wp2_with fail
          refine (TreeTypeS_any _ _).mono ?_
          rintro r w4 ⟨rfl, hb4⟩
          have HB4 := hide ((unhide HB).trans (hb4.mono (unhide HB).size))
          clear hb4 p2 p3 p4 p5 hck
          cases hx : typF x with
          | false =>
            have hte := typF_no hx
            have HR : Hid (R = false) := hide (by rw [unhide HX4, unhide HT1 hx]; rfl)
            go_wp2
            go_ret
            exact ⟨ret_bool (unhide HR).symm, (unhide HBW).trans ((unhide HB4).mono (unhide HBW).size)⟩
          | true =>
            have hte := typF_yes hx
            have HI2 := hide (unhide HT2 hx)
            go_wp2
            go_roundw
            case rel => exact ⟨k + 1, by omega, by go_num, HI2, HB4⟩
            case measure => simp [intOf]; omega
        · have HX5 : Hid (R = code.all TI.ok) := hide (by rw [unhide HX4, allF_yes (fun j hj => unhide HI j hj (by omega))]; rfl)
          clear HX4
          go_wp2
          clear p2 p3 p4 p5
          have HB0 := HB
          clear HB
          go_loopw [4] (fun i wr => ∃ k : Nat, k ≤ code.length ∧ i = .int .i64 k ∧ Hid (∀ j (hj : j < code.length), j < k → TI.ok code[j] = true) ∧ Hid (Below W.heap.size W wr)) (fun i _ => code.length - (intOf i).toNat)
          case atStart => exact ⟨0, Nat.zero_le _, rfl, hide (fun j _ hj => absurd hj (Nat.not_lt_zero _)), HB0⟩
          case round =>
            obtain ⟨k, hk, rfl, HI, HB⟩ := hrel
            have p2 : wr.cell? ⟨w.heap.size, 2, none⟩ = some (Value.slice aa args.length ca) := ((unhide HB).cell (p := ⟨w.heap.size, 2, none⟩) (unhide hlt)).trans ((unhide HB1).1 2)
            have p3 : wr.cell? ⟨w.heap.size, 3, none⟩ = some (Value.int .i64 ty) := ((unhide HB).cell (p := ⟨w.heap.size, 3, none⟩) (unhide hlt)).trans ((unhide HB1).1 3)
            have p4 : wr.cell? ⟨w.heap.size, 4, none⟩ = some (Value.int .i64 sl) := ((unhide HB).cell (p := ⟨w.heap.size, 4, none⟩) (unhide hlt)).trans ((unhide HB1).1 4)
            have p5 : wr.cell? ⟨w.heap.size, 5, none⟩ = some (Value.slice ba code.length cb) := ((unhide HB).cell (p := ⟨w.heap.size, 5, none⟩) (unhide hlt)).trans ((unhide HB1).1 5)
            by_cases hp : k < code.length
            · rcases (unhide HC).kept (unhide HB) (unhide HB).size with h | ⟨b, off, rfl, hbl, hbn, hc⟩
              · rw [h] at hp; simp at hp
              obtain ⟨c0, c1, d0, d1, hr⟩ := hc k hp
              have HT1 := hide (fun h => allI_no (zs := code) hp h)
              have HT2 := hide (fun (h : TI.ok (code[k]'hp) = true) (j : Nat) (hj : j < code.length) (hjk : j < k + 1) => show TI.ok code[j] = true from by
                by_cases e : j = k
                · subst e; exact h
                · exact unhide HI j hj (by omega))
              obtain ⟨x, hx⟩ : ∃ x, code[k]'hp = x := ⟨_, rfl⟩
              rw [hx] at hr HT1 HT2
              have HQ := hide (fun (X : World) => l8Ins_any _ x lo wr.heap.size X hr)
              clear hc hx HI hr
              go_wp2_with fail
              refine (unhide HQ _).mono ?_
              rintro r w4 ⟨rfl, hb4⟩
              have HB4 := hide ((unhide HB).trans (hb4.mono (unhide HB).size))
              clear hb4 p2 p3 p4 p5 d0 d1 HQ
              cases hx : TI.ok x with
              | false =>
                have HR : Hid (R = false) := hide (by rw [unhide HX5, unhide HT1 hx])
                go_wp2
                go_ret
                exact ⟨ret_bool (unhide HR).symm, (unhide HBW).trans ((unhide HB4).mono (unhide HBW).size)⟩
              | true =>
                have HI2 := hide (unhide HT2 hx)
                go_wp2
                go_roundw
                case rel => exact ⟨k + 1, by omega, by go_num, HI2, HB4⟩
                case measure => simp [intOf]; omega
            · have HR : Hid (R = true) := hide (by rw [unhide HX5]; exact allI_yes (fun j hj => unhide HI j hj (by omega)))
              go_wp2
              go_ret
              exact ⟨ret_bool (unhide HR).symm, (unhide HBW).trans ((unhide HB).mono (unhide HBW).size)⟩
end Go.Proofs.Ytifcfjjlgehopaa
