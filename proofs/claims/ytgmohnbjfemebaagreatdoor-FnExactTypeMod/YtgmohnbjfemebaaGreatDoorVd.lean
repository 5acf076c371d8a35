/- The walk of impl.treeHeadOk. Conditions: the function can be read. -/
import Derived.Test.YtgmohnbjfemebaaGreatDoorVb
namespace Go.Proofs.YtgmohnbjfemebaaGreatDoor
open Go.RowKit Go.PlainAid

theorem args_all_at (l : List TA) (k : Nat) (h : k < l.length) : (l.take (k + 1)).all (fun x => typeB x.type) = ((l.take k).all (fun x => typeB x.type) && typeB l[k].type) := by
  rw [List.take_succ_eq_append_getElem h, List.all_append]; simp
theorem args_all_bad (l : List TA) (k : Nat) (h : k < l.length) (hb : typeB l[k].type = false) : l.all (fun x => typeB x.type) = false := by
  rw [List.all_eq_false]; exact ⟨_, List.getElem_mem h, by rw [hb]; simp⟩

set_option maxRecDepth 100000 in
set_option maxHeartbeats 4000000 in
theorem headOk_any (lo h : Nat) (v : Value) (f : TF) (w : World) (hF : IsFun w lo w.heap.size h v f) :
    Calls Tryz.prog 67 #[v] w fun r w' => r = .returned (.bool f.headB) ∧ Below w.heap.size w w' := by
  obtain ⟨i0, hi, hz0, hz1, hz2⟩ := info_parts wsinfo
  have HX : Hid (f.headB = (decide (f.args.length ≤ 4) && (typeB f.type && (f.args.all (fun x => typeB x.type) && namesB (f.args.map TA.name))))) := hide rfl
  obtain ⟨nm, pub, args, ty, body⟩ := f
  obtain ⟨aa, ca, b0, b1, b2, b3, b4, rfl, ⟨hs1, hs2⟩, ha, hE⟩ := hF
  dsimp only at hs1 hs2 ha HX ⊢
  generalize TF.headB _ = R at HX ⊢
  unfold maxLen at hs1 hs2
  have HA := hide ha
  clear ha hE
  by_cases h4 : 4 < args.length
  · have HR : Hid (R = false) := hide (by rw [unhide HX, decide_eq_false (by omega)]; rfl)
    go_enter Tryz.func67, Tryz.ntmps67
    go_wp2
    go_ret
    exact ⟨ret_bool (unhide HR).symm, (Below.refl _ _).alloc (Nat.le_refl _) _⟩
  have HX1 : Hid (R = (typeB ty && (args.all (fun x => typeB x.type) && namesB (args.map TA.name)))) := hide (by rw [unhide HX, decide_eq_true (by omega)]; rfl)
  clear HX
  go_enter Tryz.func67, Tryz.ntmps67
  go_wp2_with fail
  refine (TreeTypeI_any _ _).mono ?_
  rintro r w2 ⟨rfl, rfl⟩
  cases ht : typeB ty with
  | false =>
    have hte := typeB_no ht
    have HR : Hid (R = false) := hide (by rw [unhide HX1, ht]; rfl)
    go_wp2
    go_ret
    exact ⟨ret_bool (unhide HR).symm, (Below.refl _ _).alloc (Nat.le_refl _) _⟩
  | true =>
  have hte := typeB_yes ht
  have HX2 : Hid (R = (args.all (fun x => typeB x.type) && namesB (args.map TA.name))) := hide (by rw [unhide HX1, ht]; rfl)
  clear HX1
  go_wp2
  clear hte
  go_loopw [3, 19] (fun o i wr => ∃ k : Nat, k ≤ args.length ∧ i = .int .i64 k ∧ wr.ownsRow (w.heap.size + 1) 9 1 o k (((args.take k).map TA.name).map Value.string) ∧ Hid ((args.take k).all (fun x => typeB x.type) = true) ∧ w.heap.size + 1 ≤ wr.heap.size ∧ Hid (Below w.heap.size w wr)) (fun _ i _ => args.length - (intOf i).toNat)
  case atStart => exact ⟨0, Nat.zero_le _, rfl, World.ownsRow_nil _ _ _ _, hide rfl, by simp, hide ((Below.refl _ _).alloc (Nat.le_refl _) _)⟩
  case round =>
    obtain ⟨k, hk, rfl, hrow, HAL, hsz, HB⟩ := hrel
    by_cases hp : k < args.length
    · rcases (unhide HA).kept (unhide HB) (unhide HB).size with hq | ⟨b, off, rfl, hbl, hbn, hcs⟩
      · rw [hq] at hp; simp at hp
      obtain ⟨c0, c1, d0, d1, hr⟩ := hcs k hp
      have htk : args.take (k + 1) = args.take k ++ [args[k]] := List.take_succ_eq_append_getElem hp
      have hal := args_all_at args k hp
      have hbad := args_all_bad args k hp
      obtain ⟨x, hx⟩ : ∃ x, args[k]'hp = x := ⟨_, rfl⟩
      rw [hx] at hr htk hal hbad
      have hv := hr.1
      simp only [Value.agg.injEq, Array.mk.injEq, List.cons.injEq, and_true] at hv
      obtain ⟨rfl, rfl⟩ := hv
      obtain ⟨vs, cp, rfl⟩ := own_slice hrow
      have HROW := hide hrow
      have HTK := hide htk
      have HAA := hide hal
      have HBAD := hide hbad
      clear hcs hr hx htk hal hbad
      go_wp2_with (first | (at_builtin; refine wpList_append_own _ rfl _ _ 23 rfl (w.heap.size + 1) 9 i0 (.string ⟨#[]⟩) 1 16 Tryz.underlying23 hi hz0 hz1 hz2 rfl (by decide) _ _ _ rfl ((hrow.alloc _).alloc _) ⟨wr.heap.size + 1, 0, none⟩ 1 1 [.string x.name] rfl rfl ?cn (by simp [Value.oneCell']) (by unfold maxLen; omega) (by omega) (by simp; omega) ?_; rotate_left; intro v2 w3 hown2 hgrow2 _; obtain ⟨g2, cap2, rfl⟩ := own_succ hown2; obtain ⟨hown3, hbb⟩ := own_next ((unhide HROW).alloc _) (by simp; omega) hown2 hgrow2; have s1 : w3.cell? ⟨wr.heap.size, 1, none⟩ = some (.int .i64 x.type) := hgrow2.cell (by simp) (fun e => by have := ((unhide HROW).lt _ e.symm).2; simp at this); have hB2 := (unhide HB).trans (((Below.refl _ wr).alloc (by omega) _).trans (hbb.mono (by omega))); have HO3 := hide hown3; have HB3 := hide hB2; have hs3 : w.heap.size + 1 ≤ w3.heap.size := (by have := hbb.size; simp at this; omega); clear hown2 hgrow2 hown3 hbb hB2 hrow d0 d1))
      case cn =>
        have := cell_one_new (wr.alloc (.cells #[.string x.name, .int .i64 x.type] 37)) (.string x.name) 9
        rw [alloc_size] at this
        exact this
      refine (TreeTypeI_any _ _).mono ?_
      rintro r w4 ⟨rfl, rfl⟩
      cases htx : typeB x.type with
      | false =>
        have hte := typeB_no htx
        have HR : Hid (R = false) := hide (by rw [unhide HX2, unhide HBAD htx]; rfl)
        go_wp2
        go_ret
        exact ⟨ret_bool (unhide HR).symm, unhide HB3⟩
      | true =>
        have hte := typeB_yes htx
        have HAL2 : Hid ((args.take (k + 1)).all (fun x => typeB x.type) = true) := hide (by rw [unhide HAA, unhide HAL, htx]; rfl)
        have HR3 : Hid (w3.ownsRow (w.heap.size + 1) 9 1 (.slice (some ⟨g2, 0, none⟩) (k + 1) cap2) (k + 1) (((args.take (k + 1)).map TA.name).map Value.string)) := hide (by rw [unhide HTK, List.map_append]; exact unhide HO3)
        go_wp2
        go_roundw
        case rel => exact ⟨k + 1, by omega, by go_num, unhide HR3, HAL2, hs3, HB3⟩
        case measure => simp [intOf]; omega
    · have hek : k = args.length := by omega
      subst hek
      have HX4 : Hid (R = namesB (args.map TA.name)) := hide (by
        have := unhide HAL
        rw [List.take_of_length_le (Nat.le_refl _)] at this
        rw [unhide HX2, this]; rfl)
      rw [List.take_of_length_le (Nat.le_refl _)] at hrow
      obtain ⟨va, vc, rfl, hvc, hwd⟩ := own_wds hrow (by simp)
      have HWD := hide hwd
      rw [List.length_map] at hvc
      clear hwd hrow HX2 HAL
      rw [List.length_map]
      go_wp2_with fail
      have hU := namesOk_any (w.heap.size + 1) va vc (args.map TA.name) wr (unhide HWD) (by rw [List.length_map]; unfold maxLen; omega) (by rw [List.length_map]; exact hvc)
      rw [List.length_map] at hU
      refine hU.mono ?_
      rintro r w4 ⟨rfl, hb4⟩
      have HB4 := hide ((unhide HB).trans (hb4.mono (unhide HB).size))
      clear hU hb4 HB HWD
      go_wp2
      go_ret
      exact ⟨ret_bool (unhide HX4).symm, unhide HB4⟩
end Go.Proofs.YtgmohnbjfemebaaGreatDoor
