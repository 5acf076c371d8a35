/- Objects that are right: the walk of spec.ObjOk. Conditions: the object can be read, its functions have at most 1048576 instructions each. -/
import Derived.Test.YtifcfjjlgehopaaBjc
import Derived.Test.YtifcfjjlgehopaaCi
import Derived.Test.YtifcfjjlgehopaaFg
namespace Go.Proofs.Ytifcfjjlgehopaa
open Go.RowKit Go.PlainAid

/-- A reference that may stand in an object; an object that is right. -/
def TR.ok (r : TR) : Bool := nameB r.name.data.toList && (r.mod.toList == [] || nameB r.mod.data.toList)
def cntC (fs : List TC) : Nat := (fs.map (fun f => f.code.length)).sum
def TO.ok (o : TO) : Bool := decide (o.refs.length ≤ 40) && (decide (o.funs.length ≤ 9) && (o.refs.all TR.ok && (o.funs.all TC.ok && decide (cntC o.funs ≤ 460))))
theorem allR_no {zs : List TR} {k : Nat} (hk : k < zs.length) (h : TR.ok zs[k] = false) : zs.all TR.ok = false := by
  rw [List.all_eq_false]
  exact ⟨_, List.getElem_mem hk, by rw [h]; simp⟩
theorem allR_yes {zs : List TR} (h : ∀ j (hj : j < zs.length), TR.ok zs[j] = true) : zs.all TR.ok = true := by
  rw [List.all_eq_true]
  intro x hx
  obtain ⟨j, hj, rfl⟩ := List.getElem_of_mem hx
  exact h j hj
theorem allC_no {zs : List TC} {k : Nat} (hk : k < zs.length) (h : TC.ok zs[k] = false) : zs.all TC.ok = false := by
  rw [List.all_eq_false]
  exact ⟨_, List.getElem_mem hk, by rw [h]; simp⟩
theorem allC_yes {zs : List TC} (h : ∀ j (hj : j < zs.length), TC.ok zs[j] = true) : zs.all TC.ok = true := by
  rw [List.all_eq_true]
  intro x hx
  obtain ⟨j, hj, rfl⟩ := List.getElem_of_mem hx
  exact h j hj
theorem cntC_step (xs : List TC) (k : Nat) (h : k < xs.length) : cntC (xs.take (k + 1)) = cntC (xs.take k) + xs[k].code.length := by
  unfold cntC; rw [List.take_succ_eq_append_getElem h, List.map_append, List.sum_append]; simp
theorem cntC_le (xs : List TC) (k : Nat) : cntC (xs.take k) ≤ cntC xs := by
  have : cntC xs = cntC (xs.take k) + cntC (xs.drop k) := by
    unfold cntC
    conv => lhs; rw [← List.take_append_drop k xs]
    rw [List.map_append, List.sum_append]
  omega
theorem cntC_all (xs : List TC) (k : Nat) (h : xs.length ≤ k) : cntC (xs.take k) = cntC xs := by rw [List.take_of_length_le h]

set_option maxHeartbeats 4000000 in
theorem ObjOkS_any (lo : Nat) (v : Value) (o : TO) (w : World) (hA : IsObj w lo w.heap.size v o) (hn : ∀ x ∈ o.funs, x.code.length ≤ 1048576) :
    Calls Try.prog 14 #[v] w fun r w' => r = .returned (.bool o.ok) ∧ Below w.heap.size w w' := by
  have HX : Hid (o.ok = (decide (o.refs.length ≤ 40) && (decide (o.funs.length ≤ 9) && (o.refs.all TR.ok && (o.funs.all TC.ok && decide (cntC o.funs ≤ 460)))))) := hide rfl
  obtain ⟨refs, funs⟩ := o
  have HNN := hide hn
  dsimp only at HNN
  clear hn
  obtain ⟨aa, ca, ba, cb, rfl, ⟨hs1, hs2⟩, ha, hb⟩ := hA
  dsimp only at hs1 hs2 ha hb HX ⊢
  generalize TO.ok _ = R at HX ⊢
  unfold maxLen at hs1 hs2
  obtain ⟨W, hW⟩ : ∃ W, W = w.alloc (.cells #[.slice aa refs.length ca, .slice ba funs.length cb] 39) := ⟨_, rfl⟩
  have hBW : Below w.heap.size w W := by rw [hW]; exact (Below.refl _ _).alloc (Nat.le_refl _) _
  have hb1 : Blk W w.heap.size [.slice aa refs.length ca, .slice ba funs.length cb] := by rw [hW]; exact Blk.new w [.slice aa refs.length ca, .slice ba funs.length cb] 39
  have hlt := hide (show w.heap.size < W.heap.size by rw [hW]; simp)
  have HBW := hide hBW
  have HA := hide (ha.kept hBW hBW.size)
  have HF := hide (hb.kept hBW hBW.size)
  have HB1 := hide hb1
  clear ha hb hBW hb1
  by_cases h40 : 40 < refs.length
  · have HR : Hid (R = false) := hide (by rw [unhide HX, decide_eq_false (by omega)]; rfl)
    go_enter Try.func14, Try.ntmps14
    go_wp2
    go_ret
    exact ⟨ret_bool (unhide HR).symm, by rw [← hW]; exact unhide HBW⟩
  by_cases h9 : 9 < funs.length
  · have HR : Hid (R = false) := hide (by rw [unhide HX, decide_eq_false (p := funs.length ≤ 9) (by omega), Bool.false_and, Bool.and_false])
    go_enter Try.func14, Try.ntmps14
    go_wp2
    go_ret
    exact ⟨ret_bool (unhide HR).symm, by rw [← hW]; exact unhide HBW⟩
  have HX1 : Hid (R = (refs.all TR.ok && (funs.all TC.ok && decide (cntC funs ≤ 460)))) := hide (by rw [unhide HX, decide_eq_true (p := refs.length ≤ 40) (by omega), decide_eq_true (p := funs.length ≤ 9) (by omega)]; rfl)
  clear HX
  go_enter Try.func14, Try.ntmps14
  go_wp2
  rw [← hW]
  clear hW
  go_loopw [3] (fun i wr => ∃ k : Nat, k ≤ refs.length ∧ i = .int .i64 k ∧ Hid (∀ j (hj : j < refs.length), j < k → TR.ok refs[j] = true) ∧ Hid (Below W.heap.size W wr)) (fun i _ => refs.length - (intOf i).toNat)
  case atStart => exact ⟨0, Nat.zero_le _, rfl, hide (fun j _ hj => absurd hj (Nat.not_lt_zero _)), hide (Below.refl _ _)⟩
  case round =>
    obtain ⟨k, hk, rfl, HI, HB⟩ := hrel
    have p0 : wr.cell? ⟨w.heap.size, 0, none⟩ = some (Value.slice aa refs.length ca) := ((unhide HB).cell (p := ⟨w.heap.size, 0, none⟩) (unhide hlt)).trans ((unhide HB1).1 0)
    have p1 : wr.cell? ⟨w.heap.size, 1, none⟩ = some (Value.slice ba funs.length cb) := ((unhide HB).cell (p := ⟨w.heap.size, 1, none⟩) (unhide hlt)).trans ((unhide HB1).1 1)
    have hlw := hide (show w.heap.size < wr.heap.size by have := unhide hlt; have := (unhide HB).size; omega)
    by_cases hp : k < refs.length
    · rcases (unhide HA).kept (unhide HB) (unhide HB).size with h | ⟨b, off, rfl, hbl, hbn, hc⟩
      · rw [h] at hp; simp at hp
      obtain ⟨c0, c1, d0, d1, hr⟩ := hc k hp
      have HT1 := hide (fun h => allR_no (zs := refs) hp h)
      have HT2 := hide (fun (h : TR.ok (refs[k]'hp) = true) (j : Nat) (hj : j < refs.length) (hjk : j < k + 1) => show TR.ok refs[j] = true from by
        by_cases e : j = k
        · subst e; exact h
        · exact unhide HI j hj (by omega))
      obtain ⟨x, hx⟩ : ∃ x, refs[k]'hp = x := ⟨_, rfl⟩
      rw [hx] at hr HT1 HT2
      have hr : (Value.agg #[c0, c1]) = .agg #[.string x.mod, .string x.name] := hr.1
      simp only [Value.agg.injEq, Array.mk.injEq, List.cons.injEq, and_true] at hr
      obtain ⟨rfl, rfl⟩ := hr
      have HOKE : Hid (TR.ok x = (nameB x.name.data.toList && (x.mod.toList == [] || nameB x.mod.data.toList))) := hide rfl
      obtain ⟨B1, hB1⟩ : ∃ B, nameB x.name.data.toList = B := ⟨_, rfl⟩
      obtain ⟨B2, hB2⟩ : ∃ B, nameB x.mod.data.toList = B := ⟨_, rfl⟩
      rw [hB1, hB2] at HOKE
      have HE1 := hide hB1
      have HE2 := hide hB2
      clear hc hx HI hB1 hB2
      cases B1 with
      | false =>
        have HR : Hid (R = false) := hide (by rw [unhide HX1, unhide HT1 (by rw [unhide HOKE]; rfl)]; rfl)
        go_wp2_with fail
        refine (LexNameS_any _ _).mono ?_
        rintro r w2 ⟨rfl, hb2⟩
        rw [unhide HE1]
        have HB2 := hide ((unhide HB).trans (hb2.mono (unhide HB).size))
        have d0 : w2.cell? ⟨b, off + k * 2, none⟩ = some (Value.string x.mod) := (hb2.cell (p := ⟨b, off + k * 2, none⟩) hbn).trans d0
        have p0 := (hb2.cell (p := ⟨w.heap.size, 0, none⟩) (unhide hlw)).trans p0
        have p1 := (hb2.cell (p := ⟨w.heap.size, 1, none⟩) (unhide hlw)).trans p1
        clear hb2 d1
        go_wp2
        go_ret
        exact ⟨ret_bool (unhide HR).symm, (unhide HBW).trans ((unhide HB2).mono (unhide HBW).size)⟩
      | true =>
        cases hm : (x.mod.toList == []) with
        | true =>
          have HOK : Hid (TR.ok x = true) := hide (by rw [unhide HOKE, hm]; rfl)
          go_wp2_with fail
          refine (LexNameS_any _ _).mono ?_
          rintro r w2 ⟨rfl, hb2⟩
          rw [unhide HE1]
          have HB2 := hide ((unhide HB).trans (hb2.mono (unhide HB).size))
          have d0 : w2.cell? ⟨b, off + k * 2, none⟩ = some (Value.string x.mod) := (hb2.cell (p := ⟨b, off + k * 2, none⟩) hbn).trans d0
          have p0 := (hb2.cell (p := ⟨w.heap.size, 0, none⟩) (unhide hlw)).trans p0
          have p1 := (hb2.cell (p := ⟨w.heap.size, 1, none⟩) (unhide hlw)).trans p1
          clear hb2 d1
          have HI2 := hide (unhide HT2 (unhide HOK))
          go_wp2
          go_roundw
          case rel => exact ⟨k + 1, by omega, by go_num, HI2, HB2⟩
          case measure => simp [intOf] <;> omega
        | false =>
          cases B2 with
          | true =>
            have HOK : Hid (TR.ok x = true) := hide (by rw [unhide HOKE, hm]; rfl)
            go_wp2_with fail
            refine (LexNameS_any _ _).mono ?_
            rintro r w2 ⟨rfl, hb2⟩
            rw [unhide HE1]
            have HB2 := hide ((unhide HB).trans (hb2.mono (unhide HB).size))
            have d0 : w2.cell? ⟨b, off + k * 2, none⟩ = some (Value.string x.mod) := (hb2.cell (p := ⟨b, off + k * 2, none⟩) hbn).trans d0
            have p0 := (hb2.cell (p := ⟨w.heap.size, 0, none⟩) (unhide hlw)).trans p0
            have p1 := (hb2.cell (p := ⟨w.heap.size, 1, none⟩) (unhide hlw)).trans p1
            clear hb2 d1
            go_wp2_with fail
            refine (LexNameS_any _ _).mono ?_
            rintro r w3 ⟨rfl, hb3⟩
            rw [unhide HE2]
            have HB2 := hide ((unhide HB2).trans (hb3.mono (unhide HB2).size))
            clear hb3 d0
            have HI2 := hide (unhide HT2 (unhide HOK))
            go_wp2
            go_roundw
            case rel => exact ⟨k + 1, by omega, by go_num, HI2, HB2⟩
            case measure => simp [intOf] <;> omega
          | false =>
            have HR : Hid (R = false) := hide (by rw [unhide HX1, unhide HT1 (by rw [unhide HOKE, hm]; rfl)]; rfl)
            go_wp2_with fail
            refine (LexNameS_any _ _).mono ?_
            rintro r w2 ⟨rfl, hb2⟩
            rw [unhide HE1]
            have HB2 := hide ((unhide HB).trans (hb2.mono (unhide HB).size))
            have d0 : w2.cell? ⟨b, off + k * 2, none⟩ = some (Value.string x.mod) := (hb2.cell (p := ⟨b, off + k * 2, none⟩) hbn).trans d0
            have p0 := (hb2.cell (p := ⟨w.heap.size, 0, none⟩) (unhide hlw)).trans p0
            have p1 := (hb2.cell (p := ⟨w.heap.size, 1, none⟩) (unhide hlw)).trans p1
            clear hb2 d1
            go_wp2_with fail
            refine (LexNameS_any _ _).mono ?_
            rintro r w3 ⟨rfl, hb3⟩
            rw [unhide HE2]
            have HB2 := hide ((unhide HB2).trans (hb3.mono (unhide HB2).size))
            clear hb3 d0
            go_wp2
            go_ret
            exact ⟨ret_bool (unhide HR).symm, (unhide HBW).trans ((unhide HB2).mono (unhide HBW).size)⟩
    · have HX2 : Hid (R = (funs.all TC.ok && decide (cntC funs ≤ 460))) := hide (by rw [unhide HX1, allR_yes (fun j hj => unhide HI j hj (by omega))]; rfl)
      clear HX1 HI
      go_wp2
      clear p0 p1
      have HB0 := HB
      clear HB
      clear hlw
      go_loopw [4, 5] (fun n i wr => ∃ k C : Nat, k ≤ funs.length ∧ i = .int .i64 k ∧ n = .int .i64 C ∧ C ≤ 460 ∧ Hid (C = cntC (funs.take k)) ∧ Hid (∀ j (hj : j < funs.length), j < k → TC.ok funs[j] = true) ∧ Hid (Below W.heap.size W wr)) (fun _ i _ => funs.length - (intOf i).toNat)
      case atStart => exact ⟨0, 0, Nat.zero_le _, rfl, rfl, Nat.zero_le _, hide rfl, hide (fun j _ hj => absurd hj (Nat.not_lt_zero _)), HB0⟩
      case round =>
        obtain ⟨k, C, hk, rfl, rfl, hC, HC, HI, HB⟩ := hrel
        have p0 : wr.cell? ⟨w.heap.size, 0, none⟩ = some (Value.slice aa refs.length ca) := ((unhide HB).cell (p := ⟨w.heap.size, 0, none⟩) (unhide hlt)).trans ((unhide HB1).1 0)
        have p1 : wr.cell? ⟨w.heap.size, 1, none⟩ = some (Value.slice ba funs.length cb) := ((unhide HB).cell (p := ⟨w.heap.size, 1, none⟩) (unhide hlt)).trans ((unhide HB1).1 1)
        by_cases hp : k < funs.length
        · rcases (unhide HF).kept (unhide HB) (unhide HB).size with h | ⟨b, off, rfl, hbl, hbn, hc⟩
          · rw [h] at hp; simp at hp
          obtain ⟨c0, c1, c2, c3, c4, c5, d0, d1, d2, d3, d4, d5, hr⟩ := hc k hp
          have hln := unhide HNN _ (List.getElem_mem hp)
          have HT1 := hide (fun h => allC_no (zs := funs) hp h)
          have HT2 := hide (fun (h : TC.ok (funs[k]'hp) = true) (j : Nat) (hj : j < funs.length) (hjk : j < k + 1) => show TC.ok funs[j] = true from by
            by_cases e : j = k
            · subst e; exact h
            · exact unhide HI j hj (by omega))
          have hs := cntC_step funs k hp
          have hle := cntC_le funs (k + 1)
          obtain ⟨x, hx⟩ : ∃ x, funs[k]'hp = x := ⟨_, rfl⟩
          rw [hx] at hr HT1 HT2 hln hs
          have hr0 := hr
          obtain ⟨a1, k1, a2, k2, hv, -, -, -⟩ := hr0
          simp only [Value.agg.injEq, Array.mk.injEq, List.cons.injEq, and_true] at hv
          obtain ⟨rfl, rfl, rfl, rfl, rfl, rfl⟩ := hv
          have HQ := hide (fun (X : World) (hb : Below wr.heap.size wr X) => l8Fun_any lo _ x X (IsCf.same (Below.same hb) (Nat.le_refl _) hb.size _ _ hr))
          have HS := hide hs
          have HLE := hide hle
          have hC2 : C + x.code.length ≤ 1048576 + 460 := by omega
          clear hc hx HI hr hs hle hln
          have hlw := hide (show w.heap.size < wr.heap.size by have := unhide hlt; have := (unhide HB).size; omega)
          go_wp2_with fail
          refine (unhide HQ _ (Below.refl _ _)).mono ?_
          rintro r w2 ⟨rfl, hb2⟩
          have HB2 := hide ((unhide HB).trans (hb2.mono (unhide HB).size))
          clear d0 d1 d2 d3 d4 d5 p0 p1 hb2 HQ
          cases hx : TC.ok x with
          | false =>
            have HR : Hid (R = false) := hide (by rw [unhide HX2, unhide HT1 hx]; rfl)
            go_wp2
            go_ret
            exact ⟨ret_bool (unhide HR).symm, (unhide HBW).trans ((unhide HB2).mono (unhide HBW).size)⟩
          | true =>
            have HI2 := hide (unhide HT2 hx)
            by_cases g : 460 < C + x.code.length
            · have HR : Hid (R = false) := hide (by rw [unhide HX2, decide_eq_false (p := cntC funs ≤ 460) (by have := unhide HS; have := unhide HLE; have := unhide HC; omega), Bool.and_false])
              go_wp2
              go_ret
              exact ⟨ret_bool (unhide HR).symm, (unhide HBW).trans ((unhide HB2).mono (unhide HBW).size)⟩
            · go_wp2
              go_roundw
              case rel => exact ⟨k + 1, C + x.code.length, by omega, by go_num, by go_num, by omega, hide (by rw [unhide HS, ← unhide HC]), HI2, HB2⟩
              case measure => simp [intOf] <;> omega
        · have HR : Hid (R = true) := hide (by
            have h1 := unhide HC
            rw [cntC_all funs k (by omega)] at h1
            rw [unhide HX2, allC_yes (fun j hj => unhide HI j hj (by omega)), decide_eq_true (by omega)]; rfl)
          go_wp2
          go_ret
          exact ⟨ret_bool (unhide HR).symm, (unhide HBW).trans ((unhide HB).mono (unhide HBW).size)⟩
end Go.Proofs.Ytifcfjjlgehopaa
