/- The walks of slices.Index, slices.Contains and impl.treeNamesOk. Conditions: the row can be read. The walk of impl.treeHeadOk. Conditions: the function can be read. The walks of treeLot.has and of right for each kind of expression. No conditions but that there are not more Kids than Go allows. The walks of impl.treeKindOf and of treeCheck.right. Conditions: the expression can be read; the counter lies in a block of its own. The walk of impl.TreeOk. Conditions: the module can be read. -/
import Derived.Test.YtffabnmgcicpiaaGreatG9
import Derived.Test.YtffabnmgcicpiaaGreatG1
import Derived.Test.YtffabnmgcicpiaaGreatG7
import Derived.Test.YtffabnmgcicpiaaGreatG8
import Derived.Deep.RegionWith
import Derived.Laws.AppendOwn
namespace Go.Proofs.YtffabnmgcicpiaaGreat
open Go.RowKit Go.PlainAid

set_option maxHeartbeats 1000000 in
theorem index_any (lo : Nat) (a : Option Addr) (cap : Nat) (ws : List ByteArray) (x : ByteArray) (w : World) (h : IsWds w lo w.heap.size a ws) (hl : ws.length ≤ maxLen) :
    Calls Tryz.prog 57 #[.slice a ws.length cap, .string x] w fun r w' => (∃ i : Int, r = .returned (.int .i64 i) ∧ decide (0 ≤ i) = hasB ws x) ∧ Below w.heap.size w w' := by
  unfold maxLen at hl
  have HW := hide h
  clear h
  go_enter Tryz.func57, Tryz.ntmps57
  go_wp2
  go_loop [8] (fun i => ∃ k : Nat, k ≤ ws.length ∧ i = .int .i64 k ∧ Hid (hasB (ws.take k) x = false)) (fun i => ws.length - (intOf i).toNat)
  case atStart => exact ⟨0, Nat.zero_le _, rfl, hide rfl⟩
  case round =>
    obtain ⟨k, hk, rfl, HN⟩ := hrel
    by_cases hp : k < ws.length
    · rcases (unhide HW) with hq | ⟨b, off, rfl, hbl, hbn, hc⟩
      · rw [hq] at hp; simp at hp
      have hck := hc k hp
      have hst := has_take ws x k hp
      have hmo := has_more ws x k ws.length hp hp
      rw [List.take_of_length_le (Nat.le_refl _)] at hmo
      obtain ⟨y, hy⟩ : ∃ y, ws[k]'hp = y := ⟨_, rfl⟩
      rw [hy] at hck hst hmo
      have sy : (y.toList == x.toList) = (x.toList == y.toList) := by rw [Bool.eq_iff_iff]; simp; exact eq_comm
      rw [sy] at hst hmo
      have HST := hide hst
      have HMO := hide hmo
      clear hst hmo hy hc sy
      cases he : (x.toList == y.toList) with
      | true =>
        have HF := hide (unhide HMO he)
        go_wp2
        go_ret
        exact ⟨⟨_, rfl, by rw [unhide HF]; exact decide_eq_true (by omega)⟩, Below.refl _ _⟩
      | false =>
        have HH : Hid (hasB (ws.take (k + 1)) x = false) := hide (by rw [unhide HST, unhide HN, he]; rfl)
        go_wp2
        go_round
        case rel => exact ⟨k + 1, by omega, by go_num, HH⟩
        case measure => simp [intOf]; omega
    · have HF : Hid (hasB ws x = false) := hide (by
        have := unhide HN
        rw [List.take_of_length_le (by omega)] at this
        exact this)
      go_wp2
      go_ret
      exact ⟨⟨_, rfl, by rw [unhide HF]; rfl⟩, Below.refl _ _⟩
set_option maxHeartbeats 1000000 in
theorem contains_any (lo : Nat) (a : Option Addr) (cap : Nat) (ws : List ByteArray) (x : ByteArray) (w : World) (h : IsWds w lo w.heap.size a ws) (hl : ws.length ≤ maxLen) :
    Calls Tryz.prog 44 #[.slice a ws.length cap, .string x] w fun r w' => r = .returned (.bool (hasB ws x)) ∧ Below w.heap.size w w' := by
  have H := hide (index_any lo a cap ws x w h hl)
  clear h hl
  go_enter Tryz.func44, Tryz.ntmps44
  go_wp2_with fail
  refine (unhide H).mono ?_
  rintro r w2 ⟨⟨i, rfl, hi⟩, hb⟩
  have HI := hide hi
  clear hi
  go_wp2
  go_ret
  exact ⟨ret_bool (unhide HI), hb⟩
set_option maxHeartbeats 1000000 in
theorem namesOk_any (lo : Nat) (a : Option Addr) (cap : Nat) (ws : List ByteArray) (w : World) (h : IsWds w lo w.heap.size a ws) (hl : ws.length ≤ maxLen) (hcap : ws.length ≤ cap) :
    Calls Tryz.prog 28 #[.slice a ws.length cap] w fun r w' => r = .returned (.bool (namesB ws)) ∧ Below w.heap.size w w' := by
  unfold maxLen at hl
  have HW := hide h
  clear h
  go_enter Tryz.func28, Tryz.ntmps28
  go_wp2
  go_loopw [7] (fun i wr => ∃ k : Nat, k ≤ ws.length ∧ i = .int .i64 k ∧ Hid (namesB ws = namesFrom (ws.take k) (ws.drop k)) ∧ Hid (Below w.heap.size w wr)) (fun i _ => ws.length - (intOf i).toNat)
  case atStart => exact ⟨0, Nat.zero_le _, rfl, hide rfl, hide (Below.refl _ _)⟩
  case round =>
    obtain ⟨k, hk, rfl, HN, HB⟩ := hrel
    by_cases hp : k < ws.length
    · have hna := names_at ws k hp
      rcases (unhide HW).kept (unhide HB) (unhide HB).size with hq | ⟨b, off, rfl, hbl, hbn, hc⟩
      · rw [hq] at hp; simp at hp
      have hck := hc k hp
      obtain ⟨x, hx⟩ : ∃ x, ws[k]'hp = x := ⟨_, rfl⟩
      rw [hx] at hck hna
      have htl : (ws.take k).length = k := by rw [List.length_take]; omega
      have HT : Hid (IsWds wr lo wr.heap.size (some ⟨b, off, none⟩) (ws.take k)) := hide (.inr ⟨b, off, rfl, hbl, hbn, fun j hj => by
        rw [List.getElem_take]; exact hc j (by omega)⟩)
      have HTL := hide htl
      have HA := hide hna
      clear hc hx hna htl
      go_wp2_with fail
      refine (LexNameI_any _ _).mono ?_
      rintro r w2 ⟨rfl, hb2⟩
      have HB2 := hide ((unhide HB).trans (hb2.mono (unhide HB).size))
      have HT2 := hide ((unhide HT).kept hb2 hb2.size)
      clear hb2 hck HB HT
      cases hn : nameB x.data.toList with
      | false =>
        have HF : Hid (namesB ws = false) := hide (by rw [unhide HN, unhide HA, hn]; rfl)
        go_wp2
        go_ret
        exact ⟨ret_bool (unhide HF).symm, unhide HB2⟩
      | true =>
        have HA2 : Hid (namesB ws = (!hasB (ws.take k) x && namesFrom (ws.take (k + 1)) (ws.drop (k + 1)))) := hide (by rw [unhide HN, unhide HA, hn]; rfl)
        have HC := contains_any lo (some ⟨b, off, none⟩) cap (ws.take k) x w2 (unhide HT2) (by rw [unhide HTL]; unfold maxLen; omega)
        rw [unhide HTL] at HC
        have HCC := hide HC
        clear HN HA HC
        go_wp2_with fail
        refine (unhide HCC).mono ?_
        rintro r w3 ⟨rfl, hb3⟩
        have HB3 := hide ((unhide HB2).trans (hb3.mono (unhide HB2).size))
        clear hb3 HB2 HCC HT2
        cases hh : hasB (ws.take k) x with
        | true =>
          have HF : Hid (namesB ws = false) := hide (by rw [unhide HA2, hh]; rfl)
          go_wp2
          go_ret
          exact ⟨ret_bool (unhide HF).symm, unhide HB3⟩
        | false =>
          have HN3 : Hid (namesB ws = namesFrom (ws.take (k + 1)) (ws.drop (k + 1))) := hide (by rw [unhide HA2, hh]; rfl)
          go_wp2
          go_roundw
          case rel => exact ⟨k + 1, by omega, by go_num, HN3, HB3⟩
          case measure => simp [intOf]; omega
    · have HF : Hid (namesB ws = true) := hide (by rw [unhide HN, List.drop_of_length_le (by omega)]; simp [namesFrom])
      go_wp2
      go_ret
      exact ⟨ret_bool (unhide HF).symm, unhide HB⟩
end Go.Proofs.YtffabnmgcicpiaaGreat

namespace Go.Proofs.YtffabnmgcicpiaaGreat
open Go.RowKit Go.PlainAid

theorem args_all_at (l : List TA) (k : Nat) (h : k < l.length) : (l.take (k + 1)).all (fun x => typeB x.type) = ((l.take k).all (fun x => typeB x.type) && typeB l[k].type) := by
  rw [List.take_succ_eq_append_getElem h, List.all_append]; simp
theorem args_all_bad (l : List TA) (k : Nat) (h : k < l.length) (hb : typeB l[k].type = false) : l.all (fun x => typeB x.type) = false := by
  rw [List.all_eq_false]; exact ⟨_, List.getElem_mem h, by rw [hb]; simp⟩

set_option maxRecDepth 100000 in
set_option maxHeartbeats 4000000 in
theorem headOk_any (lo h : Nat) (v : Value) (f : TF) (w : World) (hF : IsFun w lo w.heap.size h v f) :
    Calls Tryz.prog 26 #[v] w fun r w' => r = .returned (.bool f.headB) ∧ Below w.heap.size w w' := by
  obtain ⟨i0, hi, hz0, hz1, hz2⟩ := info_parts wsinfo
  have HX : Hid (f.headB = (decide (f.args.length ≤ 4) && (typeB f.type && (f.args.all (fun x => typeB x.type) && namesB (f.args.map TA.name))))) := hide rfl
  obtain ⟨nm, pub, args, ty, body⟩ := f
  obtain ⟨aa, ca, b0, b1, b2, b3, b4, rfl, ⟨hs1, hs2⟩, ha, hE⟩ := hF
  dsimp only at hs1 hs2 ha HX ⊢
  generalize TF.headB _ = R at HX ⊢
  unfold maxLen at hs1 hs2
  have HA := hide ha
  clear ha hE
  by_cases h4 : 4 < args.length
  · have HR : Hid (R = false) := hide (by rw [unhide HX, decide_eq_false (by omega)]; rfl)
    go_enter Tryz.func26, Tryz.ntmps26
    go_wp2
    go_ret
    exact ⟨ret_bool (unhide HR).symm, (Below.refl _ _).alloc (Nat.le_refl _) _⟩
  have HX1 : Hid (R = (typeB ty && (args.all (fun x => typeB x.type) && namesB (args.map TA.name)))) := hide (by rw [unhide HX, decide_eq_true (by omega)]; rfl)
  clear HX
  go_enter Tryz.func26, Tryz.ntmps26
  go_wp2_with fail
  refine (TreeTypeI_any _ _).mono ?_
  rintro r w2 ⟨rfl, rfl⟩
  cases ht : typeB ty with
  | false =>
    have hte := typeB_no ht
    have HR : Hid (R = false) := hide (by rw [unhide HX1, ht]; rfl)
    go_wp2
    go_ret
    exact ⟨ret_bool (unhide HR).symm, (Below.refl _ _).alloc (Nat.le_refl _) _⟩
  | true =>
  have hte := typeB_yes ht
  have HX2 : Hid (R = (args.all (fun x => typeB x.type) && namesB (args.map TA.name))) := hide (by rw [unhide HX1, ht]; rfl)
  clear HX1
  go_wp2
  clear hte
  go_loopw [3, 19] (fun o i wr => ∃ k : Nat, k ≤ args.length ∧ i = .int .i64 k ∧ wr.ownsRow (w.heap.size + 1) 9 1 o k (((args.take k).map TA.name).map Value.string) ∧ Hid ((args.take k).all (fun x => typeB x.type) = true) ∧ w.heap.size + 1 ≤ wr.heap.size ∧ Hid (Below w.heap.size w wr)) (fun _ i _ => args.length - (intOf i).toNat)
  case atStart => exact ⟨0, Nat.zero_le _, rfl, World.ownsRow_nil _ _ _ _, hide rfl, by simp, hide ((Below.refl _ _).alloc (Nat.le_refl _) _)⟩
  case round =>
    obtain ⟨k, hk, rfl, hrow, HAL, hsz, HB⟩ := hrel
    by_cases hp : k < args.length
    · rcases (unhide HA).kept (unhide HB) (unhide HB).size with hq | ⟨b, off, rfl, hbl, hbn, hcs⟩
      · rw [hq] at hp; simp at hp
      obtain ⟨c0, c1, d0, d1, hr⟩ := hcs k hp
      have htk : args.take (k + 1) = args.take k ++ [args[k]] := List.take_succ_eq_append_getElem hp
      have hal := args_all_at args k hp
      have hbad := args_all_bad args k hp
      obtain ⟨x, hx⟩ : ∃ x, args[k]'hp = x := ⟨_, rfl⟩
      rw [hx] at hr htk hal hbad
      have hv := hr.1
      simp only [Value.agg.injEq, Array.mk.injEq, List.cons.injEq, and_true] at hv
      obtain ⟨rfl, rfl⟩ := hv
      obtain ⟨vs, cp, rfl⟩ := own_slice hrow
      have HROW := hide hrow
      have HTK := hide htk
      have HAA := hide hal
      have HBAD := hide hbad
      clear hcs hr hx htk hal hbad
      go_wp2_with (first | (at_builtin; refine wpList_append_own _ rfl _ _ 23 rfl (w.heap.size + 1) 9 i0 (.string ⟨#[]⟩) 1 16 Tryz.underlying23 hi hz0 hz1 hz2 rfl (by decide) _ _ _ rfl ((hrow.alloc _).alloc _) ⟨wr.heap.size + 1, 0, none⟩ 1 1 [.string x.name] rfl rfl ?cn (by simp [Value.oneCell']) (by unfold maxLen; omega) (by omega) (by simp; omega) ?_; rotate_left; intro v2 w3 hown2 hgrow2 _; obtain ⟨g2, cap2, rfl⟩ := own_succ hown2; obtain ⟨hown3, hbb⟩ := own_next ((unhide HROW).alloc _) (by simp; omega) hown2 hgrow2; have s1 : w3.cell? ⟨wr.heap.size, 1, none⟩ = some (.int .i64 x.type) := hgrow2.cell (by simp) (fun e => by have := ((unhide HROW).lt _ e.symm).2; simp at this); have hB2 := (unhide HB).trans (((Below.refl _ wr).alloc (by omega) _).trans (hbb.mono (by omega))); have HO3 := hide hown3; have HB3 := hide hB2; have hs3 : w.heap.size + 1 ≤ w3.heap.size := (by have := hbb.size; simp at this; omega); clear hown2 hgrow2 hown3 hbb hB2 hrow d0 d1))
      case cn =>
        have := cell_one_new (wr.alloc (.cells #[.string x.name, .int .i64 x.type] 75)) (.string x.name) 9
        rw [alloc_size] at this
        exact this
      refine (TreeTypeI_any _ _).mono ?_
      rintro r w4 ⟨rfl, rfl⟩
      cases htx : typeB x.type with
      | false =>
        have hte := typeB_no htx
        have HR : Hid (R = false) := hide (by rw [unhide HX2, unhide HBAD htx]; rfl)
        go_wp2
        go_ret
        exact ⟨ret_bool (unhide HR).symm, unhide HB3⟩
      | true =>
        have hte := typeB_yes htx
        have HAL2 : Hid ((args.take (k + 1)).all (fun x => typeB x.type) = true) := hide (by rw [unhide HAA, unhide HAL, htx]; rfl)
        have HR3 : Hid (w3.ownsRow (w.heap.size + 1) 9 1 (.slice (some ⟨g2, 0, none⟩) (k + 1) cap2) (k + 1) (((args.take (k + 1)).map TA.name).map Value.string)) := hide (by rw [unhide HTK, List.map_append]; exact unhide HO3)
        go_wp2
        go_roundw
        case rel => exact ⟨k + 1, by omega, by go_num, unhide HR3, HAL2, hs3, HB3⟩
        case measure => simp [intOf]; omega
    · have hek : k = args.length := by omega
      subst hek
      have HX4 : Hid (R = namesB (args.map TA.name)) := hide (by
        have := unhide HAL
        rw [List.take_of_length_le (Nat.le_refl _)] at this
        rw [unhide HX2, this]; rfl)
      rw [List.take_of_length_le (Nat.le_refl _)] at hrow
      obtain ⟨va, vc, rfl, hvc, hwd⟩ := own_wds hrow (by simp)
      have HWD := hide hwd
      rw [List.length_map] at hvc
      clear hwd hrow HX2 HAL
      rw [List.length_map]
      go_wp2_with fail
      have hU := namesOk_any (w.heap.size + 1) va vc (args.map TA.name) wr (unhide HWD) (by rw [List.length_map]; unfold maxLen; omega) (by rw [List.length_map]; exact hvc)
      rw [List.length_map] at hU
      refine hU.mono ?_
      rintro r w4 ⟨rfl, hb4⟩
      have HB4 := hide ((unhide HB).trans (hb4.mono (unhide HB).size))
      clear hU hb4 HB HWD
      go_wp2
      go_ret
      exact ⟨ret_bool (unhide HX4).symm, unhide HB4⟩
end Go.Proofs.YtffabnmgcicpiaaGreat

namespace Go.Proofs.YtffabnmgcicpiaaGreat
open Go.RowKit Go.PlainAid

def hasI (m : Int) (nm md : ByteArray) (len : Nat) (num : Int) (name mod : ByteArray) (kids : Int) : Bool := (m == num) && ((nm.toList == name.toList) && ((md.toList == mod.toList) && ((len : Int) == kids)))

set_option maxHeartbeats 1000000 in
theorem has_any (k m : Int) (nm md : ByteArray) (a : Option Addr) (len cap : Nat) (num : Int) (name mod : ByteArray) (kids : Int) (w : World) :
    Calls Tryz.prog 106 #[.agg #[.int .i64 k, .int .i64 m, .string nm, .string md, .slice a len cap], .int .i64 num, .string name, .string mod, .int .i64 kids] w fun r w' => r = .returned (.bool (hasI m nm md len num name mod kids)) ∧ Below w.heap.size w w' := by
  unfold hasI
  cases h1 : (m == num) with
  | false =>
    go_enter Tryz.func106, Tryz.ntmps106
    go_wp2
    go_ret
    exact ⟨rfl, (Below.refl _ _).alloc (Nat.le_refl _) _⟩
  | true =>
  cases h2 : (nm.toList == name.toList) with
  | false =>
    go_enter Tryz.func106, Tryz.ntmps106
    go_wp2
    go_ret
    exact ⟨rfl, (Below.refl _ _).alloc (Nat.le_refl _) _⟩
  | true =>
  cases h3 : (md.toList == mod.toList) with
  | false =>
    go_enter Tryz.func106, Tryz.ntmps106
    go_wp2
    go_ret
    exact ⟨rfl, (Below.refl _ _).alloc (Nat.le_refl _) _⟩
  | true =>
  cases h4 : ((len : Int) == kids) with
  | false =>
    go_enter Tryz.func106, Tryz.ntmps106
    go_wp2
    go_ret
    exact ⟨rfl, (Below.refl _ _).alloc (Nat.le_refl _) _⟩
  | true =>
    go_enter Tryz.func106, Tryz.ntmps106
    go_wp2
    go_ret
    exact ⟨rfl, (Below.refl _ _).alloc (Nat.le_refl _) _⟩

theorem nat0 (n : Nat) : ((n : Int) == 0) = decide (n = 0) := by rw [Bool.eq_iff_iff]; simp
theorem nat2 (n : Nat) : ((n : Int) == 2) = decide (n = 2) := by rw [Bool.eq_iff_iff]; simp; omega
theorem nat3 (n : Nat) : ((n : Int) == 3) = decide (n = 3) := by rw [Bool.eq_iff_iff]; simp; omega
theorem natI (n : Nat) (i : Int) : ((n : Int) == i) = decide ((n : Int) = i) := rfl
theorem eqn (n : Nat) : ((n : Int) == (n : Int)) = true := by simp
theorem eqi (n : Int) : (n == n) = true := by simp
theorem eql (l : List UInt8) : (l == l) = true := by simp
theorem emp : (ByteArray.mk #[]).toList = [] := by rw [ByteArray.toList_eq]
theorem r1 (m : Int) (nm md : ByteArray) (n : Nat) : nodeB 1 m nm md n = (hasI m nm md n m ⟨#[]⟩ ⟨#[]⟩ 0 && (decide (-100000000000000000 < m) && decide (m < 100000000000000000))) := by
  show ((decide (n = 0) && plainB m nm md true false false) && (decide (m < 100000000000000000) && decide (-100000000000000000 < m))) = _
  unfold plainB hasI; rw [emp, eqi, nat0]
  generalize decide (m < 100000000000000000) = x
  generalize decide (-100000000000000000 < m) = y
  cases decide (n = 0) <;> cases (nm.toList == []) <;> cases (md.toList == []) <;> cases x <;> cases y <;> rfl
theorem r2 (m : Int) (nm md : ByteArray) (n : Nat) : nodeB 2 m nm md n = (hasI m nm md n m ⟨#[]⟩ ⟨#[]⟩ 0 && ((m == 0) || (m == 1))) := by
  show ((decide (n = 0) && plainB m nm md true false false) && (decide (m = 0) || decide (m = 1))) = _
  have e0 : decide (m = 0) = (m == 0) := rfl
  have e1 : decide (m = 1) = (m == 1) := rfl
  unfold plainB hasI; rw [emp, eqi, nat0, e0, e1]
  cases decide (n = 0) <;> cases (nm.toList == []) <;> cases (md.toList == []) <;> cases (m == 0) <;> cases (m == 1) <;> rfl
theorem r3 (m : Int) (nm md : ByteArray) (n : Nat) : nodeB 3 m nm md n = (hasI m nm md n 0 nm ⟨#[]⟩ 0 && nameB nm.data.toList) := by
  show ((decide (n = 0) && plainB m nm md false true false) && nameB nm.data.toList) = _
  unfold plainB hasI; rw [emp, eql, nat0]
  cases decide (n = 0) <;> cases (m == 0) <;> cases (md.toList == []) <;> cases nameB nm.data.toList <;> rfl
theorem r4 (m : Int) (nm md : ByteArray) (n : Nat) : nodeB 4 m nm md n = hasI m nm md n 0 nm ⟨#[]⟩ (arityI (primN nm.toList)) := by
  show (plainB m nm md false true false && decide ((n : Int) = arityI (primN nm.toList))) = _
  unfold plainB hasI; rw [emp, eql, natI]
  cases decide ((n : Int) = arityI (primN nm.toList)) <;> cases (m == 0) <;> cases (md.toList == []) <;> rfl
theorem r5 (m : Int) (nm md : ByteArray) (n : Nat) : nodeB 5 m nm md n = hasI m nm md n 0 ⟨#[]⟩ ⟨#[]⟩ 3 := by
  show (decide (n = 3) && plainB m nm md false false false) = _
  unfold plainB hasI; rw [emp, nat3]
  cases decide (n = 3) <;> cases (m == 0) <;> cases (md.toList == []) <;> cases (nm.toList == []) <;> rfl
theorem r6 (m : Int) (nm md : ByteArray) (n : Nat) : nodeB 6 m nm md n = (hasI m nm md n 0 nm ⟨#[]⟩ 2 && nameB nm.data.toList) := by
  show ((decide (n = 2) && plainB m nm md false true false) && nameB nm.data.toList) = _
  unfold plainB hasI; rw [emp, eql, nat2]
  cases decide (n = 2) <;> cases (m == 0) <;> cases (md.toList == []) <;> cases nameB nm.data.toList <;> rfl
theorem r7 (m : Int) (nm md : ByteArray) (n : Nat) : nodeB 7 m nm md n = (hasI m nm md n 0 nm md n && (decide (n ≤ 4) && (nameB nm.data.toList && ((md.toList == []) || nameB md.data.toList)))) := by
  show (((decide (n ≤ 4) && plainB m nm md false true true) && nameB nm.data.toList) && ((md.toList == []) || nameB md.data.toList)) = _
  unfold plainB hasI; rw [eql, eql, eqn]
  cases decide (n ≤ 4) <;> cases (m == 0) <;> cases (md.toList == []) <;> cases nameB nm.data.toList <;> cases nameB md.data.toList <;> rfl
theorem r8 (m : Int) (nm md : ByteArray) (n : Nat) : nodeB 8 m nm md n = (hasI m nm md n 0 ⟨#[]⟩ ⟨#[]⟩ n && decide (n ≤ 8)) := by
  show (decide (n ≤ 8) && plainB m nm md false false false) = _
  unfold plainB hasI; rw [emp, eqn]
  cases decide (n ≤ 8) <;> cases (m == 0) <;> cases (md.toList == []) <;> cases (nm.toList == []) <;> rfl

/-- What right says of a value. -/
def RightAt (F : Nat) (k0 : Int) : Prop := ∀ (k m : Int) (nm md : ByteArray) (a : Option Addr) (len cap : Nat) (w : World), len ≤ maxLen →
  Calls Tryz.prog F #[.agg #[.int .i64 k, .int .i64 m, .string nm, .string md, .slice a len cap]] w fun r w' => r = .returned (.bool (nodeB k0 m nm md len)) ∧ Below w.heap.size w w'

set_option maxHeartbeats 1000000 in
theorem right1 : RightAt 104 1 := by
  intro k m nm md a len cap w hl
  unfold maxLen at hl
  obtain ⟨R, hR⟩ : ∃ R, nodeB 1 m nm md len = R := ⟨_, rfl⟩
  have HX := hide (hR.symm.trans (r1 m nm md len))
  rw [hR]
  clear hR
  go_enter Tryz.func104, Tryz.ntmps104
  go_wp2_with fail
  refine (has_any k m nm md a len cap m ⟨#[]⟩ ⟨#[]⟩ 0 _).mono ?_
  rintro r w2 ⟨rfl, hb2⟩
  have hB2 : Below w.heap.size w w2 := ((Below.refl _ w).alloc (Nat.le_refl _) _).trans (hb2.mono (by simp))
  have n1 : Blk w2 w.heap.size [Value.int .i64 k, .int .i64 m, .string nm, .string md, .slice a len cap] := (Blk.new w [Value.int .i64 k, .int .i64 m, .string nm, .string md, .slice a len cap] 113).below hb2 (by simp)
  have hS2 : w.heap.size < w2.heap.size := by have := hb2.size; rw [alloc_size] at this; omega
  have p1 := n1.cellAt (i := 1) rfl
  have p2 := n1.cellAt (i := 2) rfl
  have p3 := n1.cellAt (i := 3) rfl
  have p4 := n1.cellAt (i := 4) rfl
  have HB2 := hide hB2
  have HS2 := hide hS2
  have N1 := hide n1
  clear hb2 hB2 n1 hS2
  cases hh : hasI m nm md len m ⟨#[]⟩ ⟨#[]⟩ 0 with
  | false =>
    have HR : Hid (R = false) := hide (by rw [unhide HX, hh]; rfl)
    go_wp2
    go_ret
    exact ⟨ret_bool (unhide HR).symm, unhide HB2⟩
  | true =>
  by_cases g1 : -100000000000000000 < m
  · by_cases g2 : m < 100000000000000000
    · skip
      have HR : Hid (R = true) := hide (by rw [unhide HX, hh, decide_eq_true g1, decide_eq_true g2]; simp)
      go_wp2
      go_ret
      exact ⟨ret_bool (by rw [unhide HR]; first | done | exact decide_eq_true (by omega) | exact decide_eq_false (by omega)), unhide HB2⟩
    · skip
      have HR : Hid (R = false) := hide (by rw [unhide HX, hh, decide_eq_false g2]; simp)
      go_wp2
      go_ret
      exact ⟨ret_bool (by rw [unhide HR]; first | done | exact decide_eq_true (by omega) | exact decide_eq_false (by omega)), unhide HB2⟩
  · skip
    have HR : Hid (R = false) := hide (by rw [unhide HX, hh, decide_eq_false g1]; simp)
    go_wp2
    go_ret
    exact ⟨ret_bool (by rw [unhide HR]; first | done | exact decide_eq_true (by omega) | exact decide_eq_false (by omega)), unhide HB2⟩

set_option maxHeartbeats 1000000 in
theorem right2 : RightAt 107 2 := by
  intro k m nm md a len cap w hl
  unfold maxLen at hl
  obtain ⟨R, hR⟩ : ∃ R, nodeB 2 m nm md len = R := ⟨_, rfl⟩
  have HX := hide (hR.symm.trans (r2 m nm md len))
  rw [hR]
  clear hR
  go_enter Tryz.func107, Tryz.ntmps107
  go_wp2_with fail
  refine (has_any k m nm md a len cap m ⟨#[]⟩ ⟨#[]⟩ 0 _).mono ?_
  rintro r w2 ⟨rfl, hb2⟩
  have hB2 : Below w.heap.size w w2 := ((Below.refl _ w).alloc (Nat.le_refl _) _).trans (hb2.mono (by simp))
  have n1 : Blk w2 w.heap.size [Value.int .i64 k, .int .i64 m, .string nm, .string md, .slice a len cap] := (Blk.new w [Value.int .i64 k, .int .i64 m, .string nm, .string md, .slice a len cap] 114).below hb2 (by simp)
  have hS2 : w.heap.size < w2.heap.size := by have := hb2.size; rw [alloc_size] at this; omega
  have p1 := n1.cellAt (i := 1) rfl
  have p2 := n1.cellAt (i := 2) rfl
  have p3 := n1.cellAt (i := 3) rfl
  have p4 := n1.cellAt (i := 4) rfl
  have HB2 := hide hB2
  have HS2 := hide hS2
  have N1 := hide n1
  clear hb2 hB2 n1 hS2
  cases hh : hasI m nm md len m ⟨#[]⟩ ⟨#[]⟩ 0 with
  | false =>
    have HR : Hid (R = false) := hide (by rw [unhide HX, hh]; rfl)
    go_wp2
    go_ret
    exact ⟨ret_bool (unhide HR).symm, unhide HB2⟩
  | true =>
  cases g1 : (m == 0) with
  | true =>
    have HR : Hid (R = true) := hide (by rw [unhide HX, hh, g1]; simp)
    go_wp2
    go_ret
    exact ⟨ret_bool (by rw [unhide HR]; first | done | exact decide_eq_true (by omega) | exact decide_eq_false (by omega)), unhide HB2⟩
  | false =>
  cases g2 : (m == 1) with
  | true =>
    have HR : Hid (R = true) := hide (by rw [unhide HX, hh, g2]; simp)
    go_wp2
    go_ret
    exact ⟨ret_bool (by rw [unhide HR]; first | done | exact decide_eq_true (by omega) | exact decide_eq_false (by omega)), unhide HB2⟩
  | false =>
    have HR : Hid (R = false) := hide (by rw [unhide HX, hh, g1, g2]; simp)
    go_wp2
    go_ret
    exact ⟨ret_bool (by rw [unhide HR]; first | done | exact decide_eq_true (by omega) | exact decide_eq_false (by omega)), unhide HB2⟩

set_option maxHeartbeats 1000000 in
theorem right3 : RightAt 109 3 := by
  intro k m nm md a len cap w hl
  unfold maxLen at hl
  obtain ⟨R, hR⟩ : ∃ R, nodeB 3 m nm md len = R := ⟨_, rfl⟩
  have HX := hide (hR.symm.trans (r3 m nm md len))
  rw [hR]
  clear hR
  go_enter Tryz.func109, Tryz.ntmps109
  go_wp2_with fail
  refine (has_any k m nm md a len cap 0 nm ⟨#[]⟩ 0 _).mono ?_
  rintro r w2 ⟨rfl, hb2⟩
  have hB2 : Below w.heap.size w w2 := ((Below.refl _ w).alloc (Nat.le_refl _) _).trans (hb2.mono (by simp))
  have n1 : Blk w2 w.heap.size [Value.int .i64 k, .int .i64 m, .string nm, .string md, .slice a len cap] := (Blk.new w [Value.int .i64 k, .int .i64 m, .string nm, .string md, .slice a len cap] 115).below hb2 (by simp)
  have hS2 : w.heap.size < w2.heap.size := by have := hb2.size; rw [alloc_size] at this; omega
  have p1 := n1.cellAt (i := 1) rfl
  have p2 := n1.cellAt (i := 2) rfl
  have p3 := n1.cellAt (i := 3) rfl
  have p4 := n1.cellAt (i := 4) rfl
  have HB2 := hide hB2
  have HS2 := hide hS2
  have N1 := hide n1
  clear hb2 hB2 n1 hS2
  cases hh : hasI m nm md len 0 nm ⟨#[]⟩ 0 with
  | false =>
    have HR : Hid (R = false) := hide (by rw [unhide HX, hh]; rfl)
    go_wp2
    go_ret
    exact ⟨ret_bool (unhide HR).symm, unhide HB2⟩
  | true =>
  go_wp2_with fail
  refine (LexNameI_any _ _).mono ?_
  rintro r w3 ⟨rfl, hb3⟩
  have HB3 := hide ((unhide HB2).trans (hb3.mono (unhide HB2).size))
  have HR : Hid (R = nameB nm.data.toList) := hide (by rw [unhide HX, hh]; simp)
  clear hb3
  go_wp2
  go_ret
  exact ⟨ret_bool (unhide HR).symm, unhide HB3⟩

set_option maxHeartbeats 1000000 in
theorem right6 : RightAt 116 6 := by
  intro k m nm md a len cap w hl
  unfold maxLen at hl
  obtain ⟨R, hR⟩ : ∃ R, nodeB 6 m nm md len = R := ⟨_, rfl⟩
  have HX := hide (hR.symm.trans (r6 m nm md len))
  rw [hR]
  clear hR
  go_enter Tryz.func116, Tryz.ntmps116
  go_wp2_with fail
  refine (has_any k m nm md a len cap 0 nm ⟨#[]⟩ 2 _).mono ?_
  rintro r w2 ⟨rfl, hb2⟩
  have hB2 : Below w.heap.size w w2 := ((Below.refl _ w).alloc (Nat.le_refl _) _).trans (hb2.mono (by simp))
  have n1 : Blk w2 w.heap.size [Value.int .i64 k, .int .i64 m, .string nm, .string md, .slice a len cap] := (Blk.new w [Value.int .i64 k, .int .i64 m, .string nm, .string md, .slice a len cap] 118).below hb2 (by simp)
  have hS2 : w.heap.size < w2.heap.size := by have := hb2.size; rw [alloc_size] at this; omega
  have p1 := n1.cellAt (i := 1) rfl
  have p2 := n1.cellAt (i := 2) rfl
  have p3 := n1.cellAt (i := 3) rfl
  have p4 := n1.cellAt (i := 4) rfl
  have HB2 := hide hB2
  have HS2 := hide hS2
  have N1 := hide n1
  clear hb2 hB2 n1 hS2
  cases hh : hasI m nm md len 0 nm ⟨#[]⟩ 2 with
  | false =>
    have HR : Hid (R = false) := hide (by rw [unhide HX, hh]; rfl)
    go_wp2
    go_ret
    exact ⟨ret_bool (unhide HR).symm, unhide HB2⟩
  | true =>
  go_wp2_with fail
  refine (LexNameI_any _ _).mono ?_
  rintro r w3 ⟨rfl, hb3⟩
  have HB3 := hide ((unhide HB2).trans (hb3.mono (unhide HB2).size))
  have HR : Hid (R = nameB nm.data.toList) := hide (by rw [unhide HX, hh]; simp)
  clear hb3
  go_wp2
  go_ret
  exact ⟨ret_bool (unhide HR).symm, unhide HB3⟩

set_option maxHeartbeats 1000000 in
theorem right5 : RightAt 114 5 := by
  intro k m nm md a len cap w hl
  unfold maxLen at hl
  obtain ⟨R, hR⟩ : ∃ R, nodeB 5 m nm md len = R := ⟨_, rfl⟩
  have HX := hide (hR.symm.trans (r5 m nm md len))
  rw [hR]
  clear hR
  go_enter Tryz.func114, Tryz.ntmps114
  go_wp2_with fail
  refine (has_any k m nm md a len cap 0 ⟨#[]⟩ ⟨#[]⟩ 3 _).mono ?_
  rintro r w2 ⟨rfl, hb2⟩
  have hB2 : Below w.heap.size w w2 := ((Below.refl _ w).alloc (Nat.le_refl _) _).trans (hb2.mono (by simp))
  have n1 : Blk w2 w.heap.size [Value.int .i64 k, .int .i64 m, .string nm, .string md, .slice a len cap] := (Blk.new w [Value.int .i64 k, .int .i64 m, .string nm, .string md, .slice a len cap] 117).below hb2 (by simp)
  have hS2 : w.heap.size < w2.heap.size := by have := hb2.size; rw [alloc_size] at this; omega
  have p1 := n1.cellAt (i := 1) rfl
  have p2 := n1.cellAt (i := 2) rfl
  have p3 := n1.cellAt (i := 3) rfl
  have p4 := n1.cellAt (i := 4) rfl
  have HB2 := hide hB2
  have HS2 := hide hS2
  have N1 := hide n1
  clear hb2 hB2 n1 hS2
  go_wp2
  go_ret
  exact ⟨ret_bool (unhide HX).symm, unhide HB2⟩

set_option maxHeartbeats 1000000 in
theorem right8 : RightAt 120 8 := by
  intro k m nm md a len cap w hl
  unfold maxLen at hl
  obtain ⟨R, hR⟩ : ∃ R, nodeB 8 m nm md len = R := ⟨_, rfl⟩
  have HX := hide (hR.symm.trans (r8 m nm md len))
  rw [hR]
  clear hR
  go_enter Tryz.func120, Tryz.ntmps120
  go_wp2_with fail
  refine (has_any k m nm md a len cap 0 ⟨#[]⟩ ⟨#[]⟩ len _).mono ?_
  rintro r w2 ⟨rfl, hb2⟩
  have hB2 : Below w.heap.size w w2 := ((Below.refl _ w).alloc (Nat.le_refl _) _).trans (hb2.mono (by simp))
  have n1 : Blk w2 w.heap.size [Value.int .i64 k, .int .i64 m, .string nm, .string md, .slice a len cap] := (Blk.new w [Value.int .i64 k, .int .i64 m, .string nm, .string md, .slice a len cap] 120).below hb2 (by simp)
  have hS2 : w.heap.size < w2.heap.size := by have := hb2.size; rw [alloc_size] at this; omega
  have p1 := n1.cellAt (i := 1) rfl
  have p2 := n1.cellAt (i := 2) rfl
  have p3 := n1.cellAt (i := 3) rfl
  have p4 := n1.cellAt (i := 4) rfl
  have HB2 := hide hB2
  have HS2 := hide hS2
  have N1 := hide n1
  clear hb2 hB2 n1 hS2
  cases hh : hasI m nm md len 0 ⟨#[]⟩ ⟨#[]⟩ len with
  | false =>
    have HR : Hid (R = false) := hide (by rw [unhide HX, hh]; rfl)
    go_wp2
    go_ret
    exact ⟨ret_bool (unhide HR).symm, unhide HB2⟩
  | true =>
  by_cases g1 : len ≤ 8
  · skip
    have HR : Hid (R = true) := hide (by rw [unhide HX, hh, decide_eq_true g1]; simp)
    go_wp2
    go_ret
    exact ⟨ret_bool (by rw [unhide HR]; first | done | exact decide_eq_true (by omega) | exact decide_eq_false (by omega)), unhide HB2⟩
  · skip
    have HR : Hid (R = false) := hide (by rw [unhide HX, hh, decide_eq_false g1]; simp)
    go_wp2
    go_ret
    exact ⟨ret_bool (by rw [unhide HR]; first | done | exact decide_eq_true (by omega) | exact decide_eq_false (by omega)), unhide HB2⟩

set_option maxHeartbeats 1000000 in
theorem right7 : RightAt 118 7 := by
  intro k m nm md a len cap w hl
  unfold maxLen at hl
  obtain ⟨R, hR⟩ : ∃ R, nodeB 7 m nm md len = R := ⟨_, rfl⟩
  have HX := hide (hR.symm.trans (r7 m nm md len))
  rw [hR]
  clear hR
  go_enter Tryz.func118, Tryz.ntmps118
  go_wp2_with fail
  refine (has_any k m nm md a len cap 0 nm md len _).mono ?_
  rintro r w2 ⟨rfl, hb2⟩
  have hB2 : Below w.heap.size w w2 := ((Below.refl _ w).alloc (Nat.le_refl _) _).trans (hb2.mono (by simp))
  have n1 : Blk w2 w.heap.size [Value.int .i64 k, .int .i64 m, .string nm, .string md, .slice a len cap] := (Blk.new w [Value.int .i64 k, .int .i64 m, .string nm, .string md, .slice a len cap] 119).below hb2 (by simp)
  have hS2 : w.heap.size < w2.heap.size := by have := hb2.size; rw [alloc_size] at this; omega
  have p1 := n1.cellAt (i := 1) rfl
  have p2 := n1.cellAt (i := 2) rfl
  have p3 := n1.cellAt (i := 3) rfl
  have p4 := n1.cellAt (i := 4) rfl
  have HB2 := hide hB2
  have HS2 := hide hS2
  have N1 := hide n1
  clear hb2 hB2 n1 hS2
  cases hh : hasI m nm md len 0 nm md len with
  | false =>
    have HR : Hid (R = false) := hide (by rw [unhide HX, hh]; rfl)
    go_wp2
    go_ret
    exact ⟨ret_bool (unhide HR).symm, unhide HB2⟩
  | true =>
  by_cases g1 : len ≤ 4
  · go_wp2_with fail
    refine (LexNameI_any _ _).mono ?_
    rintro r w3 ⟨rfl, hb3⟩
    have q3 := ((unhide N1).below hb3 (unhide HS2)).cellAt (i := 3) rfl
    have HB3 := hide ((unhide HB2).trans (hb3.mono (unhide HB2).size))
    clear hb3 p1 p2 p3 p4 HB2 N1 HS2
    cases hn : nameB nm.data.toList with
    | false =>
      have HR : Hid (R = false) := hide (by rw [unhide HX, hh, hn]; simp)
      go_wp2
      go_ret
      exact ⟨ret_bool (by rw [unhide HR]; first | done | exact decide_eq_true (by omega) | exact decide_eq_false (by omega)), unhide HB3⟩
    | true =>
    cases he : (md.toList == []) with
    | true =>
      have HR : Hid (R = true) := hide (by rw [unhide HX, hh, decide_eq_true g1, hn, he]; simp)
      go_wp2
      go_ret
      exact ⟨ret_bool (by rw [unhide HR]; first | done | exact decide_eq_true (by omega) | exact decide_eq_false (by omega)), unhide HB3⟩
    | false =>
      go_wp2_with fail
      refine (LexNameI_any _ _).mono ?_
      rintro r w4 ⟨rfl, hb4⟩
      have HB4 := hide ((unhide HB3).trans (hb4.mono (unhide HB3).size))
      have HR : Hid (R = nameB md.data.toList) := hide (by rw [unhide HX, hh, decide_eq_true g1, hn, he]; simp)
      clear hb4
      go_wp2
      go_ret
      exact ⟨ret_bool (unhide HR).symm, unhide HB4⟩
  · skip
    have HR : Hid (R = false) := hide (by rw [unhide HX, hh, decide_eq_false g1]; simp)
    go_wp2
    go_ret
    exact ⟨ret_bool (by rw [unhide HR]; first | done | exact decide_eq_true (by omega) | exact decide_eq_false (by omega)), unhide HB2⟩

theorem nodeB_none {k : Int} (m : Int) (nm md : ByteArray) (n : Nat) (n1 : (k == 1) = false) (n2 : (k == 2) = false) (n3 : (k == 3) = false) (n4 : (k == 4) = false) (n5 : (k == 5) = false) (n6 : (k == 6) = false) (n7 : (k == 7) = false) (n8 : (k == 8) = false) : nodeB k m nm md n = false := by
  simp only [beq_eq_false_iff_ne] at n1 n2 n3 n4 n5 n6 n7 n8
  unfold nodeB
  rw [if_neg n1, if_neg n2, if_neg n3, if_neg n4, if_neg n5, if_neg n6, if_neg n7, if_neg n8]
set_option maxHeartbeats 1000000 in
theorem right0 (v : Value) (w : World) (k m : Int) (nm md : ByteArray) (a : Option Addr) (len cap : Nat) (hv : v = .agg #[.int .i64 k, .int .i64 m, .string nm, .string md, .slice a len cap]) :
    Calls Tryz.prog 122 #[v] w fun r w' => r = .returned (.bool false) ∧ Below w.heap.size w w' := by
  subst hv
  go_enter Tryz.func122, Tryz.ntmps122
  go_wp2
  go_ret
  exact ⟨rfl, (Below.refl _ _).alloc (Nat.le_refl _) _⟩

set_option maxHeartbeats 1000000 in
theorem right4 : RightAt 111 4 := by
  intro k m nm md a len cap w hl
  rw [r4]
  go_enter Tryz.func111, Tryz.ntmps111
  go_wp2
  go_region_with (first | (go_at_call 113; refine (TreeArityI_any _ _).mono ?_; rintro e w2 ⟨rfl, rfl⟩) | (go_at_call 106; refine (has_any k m nm md a len cap 0 nm ⟨#[]⟩ _ _).mono ?_; rintro e w2 ⟨rfl, hb2⟩))
  all_goals
    go_wp2
    go_ret
    exact ⟨rfl, (((Below.refl _ w).alloc (Nat.le_refl _) _).drew).trans (hb2.mono (by simp))⟩

end Go.Proofs.YtffabnmgcicpiaaGreat

namespace Go.Proofs.YtffabnmgcicpiaaGreat
open Go.RowKit Go.PlainAid

abbrev EV (k m : Int) (nm md : ByteArray) (a : Option Addr) (len cap : Nat) : Value := .agg #[.int .i64 k, .int .i64 m, .string nm, .string md, .slice a len cap]
/-- An interface value of the type T that holds v: its right is the function F, which says R. -/
def RightOf (T F : Nat) (v : Value) (R : Bool) : Prop := (∀ W, (method 271 T v "loop.example/smithy/impl.right").run Tryz.prog W = .ok (F, v) W) ∧ (∀ W, (callFunc F #[v]).run Tryz.prog W = .ok (.enter F #[v]) W) ∧ (∀ W, Calls Tryz.prog F #[v] W fun r w' => r = .returned (.bool R) ∧ Below W.heap.size W w')

set_option maxRecDepth 100000 in
set_option maxHeartbeats 2000000 in
theorem kind_any (k m : Int) (nm md : ByteArray) (a : Option Addr) (len cap : Nat) (w : World) (hl : len ≤ maxLen) :
    Calls Tryz.prog 42 #[EV k m nm md a len cap] w fun r w' => ∃ T F, r = .returned (.iface T (EV k m nm md a len cap)) ∧ RightOf T F (EV k m nm md a len cap) (nodeB k m nm md len) ∧ Below w.heap.size w w' := by
  have hk : k = 1 ∨ k = 2 ∨ k = 3 ∨ k = 4 ∨ k = 5 ∨ k = 6 ∨ k = 7 ∨ k = 8 ∨ ((k == 1) = false ∧ (k == 2) = false ∧ (k == 3) = false ∧ (k == 4) = false ∧ (k == 5) = false ∧ (k == 6) = false ∧ (k == 7) = false ∧ (k == 8) = false) := by
    simp only [beq_eq_false_iff_ne]; omega
  rcases hk with rfl | rfl | rfl | rfl | rfl | rfl | rfl | rfl | ⟨n1, n2, n3, n4, n5, n6, n7, n8⟩
  · go_enter Tryz.func42, Tryz.ntmps42
    go_wp2
    go_ret
    exact ⟨113, 104, rfl, ⟨fun _ => by kernel_rfl, fun _ => by kernel_rfl, fun W => right1 1 m nm md a len cap W hl⟩, ((Below.refl _ _).alloc (Nat.le_refl _) _).alloc (by simp) _⟩
  · go_enter Tryz.func42, Tryz.ntmps42
    go_wp2
    go_ret
    exact ⟨114, 107, rfl, ⟨fun _ => by kernel_rfl, fun _ => by kernel_rfl, fun W => right2 2 m nm md a len cap W hl⟩, ((Below.refl _ _).alloc (Nat.le_refl _) _).alloc (by simp) _⟩
  · go_enter Tryz.func42, Tryz.ntmps42
    go_wp2
    go_ret
    exact ⟨115, 109, rfl, ⟨fun _ => by kernel_rfl, fun _ => by kernel_rfl, fun W => right3 3 m nm md a len cap W hl⟩, ((Below.refl _ _).alloc (Nat.le_refl _) _).alloc (by simp) _⟩
  · go_enter Tryz.func42, Tryz.ntmps42
    go_wp2
    go_ret
    exact ⟨116, 111, rfl, ⟨fun _ => by kernel_rfl, fun _ => by kernel_rfl, fun W => right4 4 m nm md a len cap W hl⟩, ((Below.refl _ _).alloc (Nat.le_refl _) _).alloc (by simp) _⟩
  · go_enter Tryz.func42, Tryz.ntmps42
    go_wp2
    go_ret
    exact ⟨117, 114, rfl, ⟨fun _ => by kernel_rfl, fun _ => by kernel_rfl, fun W => right5 5 m nm md a len cap W hl⟩, ((Below.refl _ _).alloc (Nat.le_refl _) _).alloc (by simp) _⟩
  · go_enter Tryz.func42, Tryz.ntmps42
    go_wp2
    go_ret
    exact ⟨118, 116, rfl, ⟨fun _ => by kernel_rfl, fun _ => by kernel_rfl, fun W => right6 6 m nm md a len cap W hl⟩, ((Below.refl _ _).alloc (Nat.le_refl _) _).alloc (by simp) _⟩
  · go_enter Tryz.func42, Tryz.ntmps42
    go_wp2
    go_ret
    exact ⟨119, 118, rfl, ⟨fun _ => by kernel_rfl, fun _ => by kernel_rfl, fun W => right7 7 m nm md a len cap W hl⟩, ((Below.refl _ _).alloc (Nat.le_refl _) _).alloc (by simp) _⟩
  · go_enter Tryz.func42, Tryz.ntmps42
    go_wp2
    go_ret
    exact ⟨120, 120, rfl, ⟨fun _ => by kernel_rfl, fun _ => by kernel_rfl, fun W => right8 8 m nm md a len cap W hl⟩, ((Below.refl _ _).alloc (Nat.le_refl _) _).alloc (by simp) _⟩
  · have HN := hide (nodeB_none m nm md len n1 n2 n3 n4 n5 n6 n7 n8)
    go_enter Tryz.func42, Tryz.ntmps42
    go_wp2
    go_ret
    refine ⟨121, 122, rfl, ⟨fun _ => by kernel_rfl, fun _ => by kernel_rfl, fun W => ?_⟩, ((Below.refl _ _).alloc (Nat.le_refl _) _).alloc (by simp) _⟩
    rw [unhide HN]
    exact right0 _ W k m nm md a len cap rfl

theorem gr_below {w w' : World} (hb : Below w.heap.size w w') (row : Option Nat) : w.grownBy w' row := ⟨hb.os, hb.tape, hb.output, hb.size, fun k hk _ => hb.block k hk⟩
theorem gr_refl (w : World) (row : Option Nat) : w.grownBy w row := ⟨rfl, rfl, rfl, Nat.le_refl _, fun _ _ _ => rfl⟩
theorem gr_trans {a b c : World} {row : Option Nat} (h : a.grownBy b row) (k : b.grownBy c row) : a.grownBy c row :=
  ⟨k.os.trans h.os, k.tape.trans h.tape, k.output.trans h.output, Nat.le_trans h.size k.size, fun i hi hr => (k.block i (Nat.lt_of_lt_of_le hi h.size) hr).trans (h.block i hi hr)⟩
theorem gr_set (w : World) (B i : Nat) (v : Value) : w.grownBy (w.setCell ⟨B, i, none⟩ v) (some B) :=
  ⟨rfl, rfl, rfl, by simp [World.setCell], fun k _ hk => Below.heap_setCell _ _ _ _ (fun e => hk (by rw [e]))⟩
/-- A store into a block that is new to w. -/
theorem gr_new {w W : World} {row : Option Nat} (h : w.grownBy W row) (B i : Nat) (v : Value) (hB : w.heap.size ≤ B) : w.grownBy (W.setCell ⟨B, i, none⟩ v) row :=
  ⟨h.os, h.tape, h.output, by simpa [World.setCell] using h.size, fun k hk hr => (Below.heap_setCell _ _ _ _ (by show k ≠ B; omega)).trans (h.block k hk hr)⟩
theorem gr_same {w w' : World} {B lo n : Nat} (h : w.grownBy w' (some B)) (hn : n ≤ B) (hB : B ≤ w.heap.size) : Same lo n w w' := fun b _ h2 => h.block b (by omega) (by simp; omega)
/-- The counter. -/
def Ck (w : World) (B : Nat) (L : Int) : Prop := w.cell? ⟨B, 0, none⟩ = some (.int .i64 L) ∧ w.frozen? ⟨B, 0, none⟩ = false
theorem Ck.below {w w' : World} {B : Nat} {L : Int} (h : Ck w B L) (hb : Below w.heap.size w w') (hB : B < w.heap.size) : Ck w' B L :=
  ⟨(hb.cell (p := ⟨B, 0, none⟩) hB).trans h.1, (hb.frozen (p := ⟨B, 0, none⟩) hB).trans h.2⟩

/-- An expression at a depth is right, with at most L expressions. -/
def TE.rightB (e : TE) (L : Nat) (d : Nat) : Bool := decide (e.nodes ≤ L) && (decide (d + e.deep ≤ 17) && e.ok)
theorem deepL_le_take (l : List TE) (k : Nat) : deepL (l.take k) ≤ deepL l := by
  have := deepL_append (l.take k) (l.drop k)
  rw [List.take_append_drop] at this
  rw [this]; exact Nat.le_max_left _ _
theorem deep_at (l : List TE) (k : Nat) (h : k < l.length) : l[k].deep ≤ deepL l := by
  have h1 := deep_step l k h
  have h2 := deepL_le_take l (k + 1)
  have h3 : l[k].deep ≤ Nat.max (deepL (l.take k)) l[k].deep := Nat.le_max_right _ _
  omega
theorem deep_pos : ∀ e : TE, 1 ≤ e.deep
  | .node _ _ _ _ kids => by rw [TE.deep]; omega

theorem right_no (kd m : Int) (nm md : ByteArray) (kids : List TE) (L d : Nat) (h : L = 0 ∨ 17 ≤ d ∨ nodeB kd m nm md kids.length = false) : (TE.node kd m nm md kids).rightB L d = false := by
  unfold TE.rightB
  rw [TE.nodes, TE.deep, TE.ok]
  rcases h with h | h | h
  · rw [decide_eq_false (by omega)]; rfl
  · rw [decide_eq_false (p := d + (deepL kids + 1) ≤ 17) (by omega)]; simp
  · rw [h]; simp
theorem right_kid (kd m : Int) (nm md : ByteArray) (kids : List TE) (L d k M : Nat) (hk : k < kids.length) (hM : 1 + nodesL (kids.take k) + M = L) (h : kids[k].rightB M (d + 1) = false) : (TE.node kd m nm md kids).rightB L d = false := by
  have h1 := nodes_step kids k hk
  have h2 := nodes_le kids (k + 1)
  have h3 := deep_at kids k hk
  have h4 := ok_bad kids k hk
  unfold TE.rightB at h ⊢
  rw [TE.nodes, TE.deep, TE.ok]
  generalize kids[k] = e at h h1 h3 h4
  by_cases g1 : e.nodes ≤ M
  · by_cases g2 : d + 1 + e.deep ≤ 17
    · rw [decide_eq_true g1, decide_eq_true g2] at h
      rw [h4 (by simpa using h)]; simp
    · rw [decide_eq_false (p := d + (deepL kids + 1) ≤ 17) (by omega)]; simp
  · rw [decide_eq_false (by omega)]; rfl
theorem right_kid_yes {e : TE} {M d : Nat} (h : e.rightB M d = true) : e.nodes ≤ M ∧ d + e.deep ≤ 17 ∧ e.ok = true := by
  unfold TE.rightB at h
  rw [Bool.and_eq_true, Bool.and_eq_true, decide_eq_true_eq, decide_eq_true_eq] at h
  exact h
theorem right_end (kd m : Int) (nm md : ByteArray) (kids : List TE) (L d M : Nat) (hM : 1 + nodesL kids + M = L) (hd : d + 1 + deepL kids ≤ 17) (hn : nodeB kd m nm md kids.length = true) (ho : okL kids = true) : (TE.node kd m nm md kids).rightB L d = true := by
  unfold TE.rightB
  rw [TE.nodes, TE.deep, TE.ok, hn, ho, decide_eq_true (by omega), decide_eq_true (by omega)]; rfl

theorem set_size (w : World) (p : Addr) (v : Value) : (w.setCell p v).heap.size = w.heap.size := by simp [World.setCell]
theorem ck_dec {w : World} {B : Nat} {L : Int} (h : Ck w B L) (hB : B < w.heap.size) (x : Int) (o : Obj) : Ck ((w.setCell ⟨B, 0, none⟩ (.int .i64 x)).alloc o) B x ∧ w.grownBy ((w.setCell ⟨B, 0, none⟩ (.int .i64 x)).alloc o) (some B) := by
  have hb : Below (w.setCell ⟨B, 0, none⟩ (.int .i64 x)).heap.size (w.setCell ⟨B, 0, none⟩ (.int .i64 x)) ((w.setCell ⟨B, 0, none⟩ (.int .i64 x)).alloc o) := (Below.refl _ _).alloc (Nat.le_refl _) _
  refine ⟨Ck.below ⟨cell_same _ _ _ _ (by rw [h.1]; rfl), by rw [World.frozen?_setCell]; exact h.2⟩ hb (by rw [set_size]; exact hB), gr_trans (gr_set _ _ _ _) (World.grownBy_alloc _ _ _)⟩
set_option maxRecDepth 100000 in
set_option maxHeartbeats 4000000 in
theorem checkRight_any (lo n B : Nat) (hnB : n ≤ B) : ∀ (h : Nat) (v : Value) (e : TE) (w : World) (L d : Nat), IsE w lo n h v e → B < w.heap.size → Ck w B L → L ≤ 150 → 1 ≤ d → d ≤ 17 →
    Calls Tryz.prog 27 #[.pointer (some ⟨B, 0, none⟩), v, .int .i64 (d : Int)] w fun r w' => r = .returned (.bool (e.rightB L d)) ∧ ∃ L' : Int, Ck w' B L' ∧ (e.rightB L d = true → L' = (L : Int) - e.nodes) ∧ w.grownBy w' (some B) := by
  intro h
  induction h with
  | zero => intro v e w L d hE; exact hE.elim
  | succ h ih =>
    intro v e w L d hE hB hC hL hd1 hd2
    obtain ⟨kd, m, nm, md, kids⟩ := e
    obtain ⟨a, cap, rfl, ⟨_, _, hs3⟩, hk⟩ := hE
    obtain ⟨hc0, hf0⟩ := hC
    have HK := hide hk
    have IH := hide ih
    have HNB := hide hnB
    have HKD := hide (fun w => kind_any kd m nm md a kids.length cap w hs3)
    unfold maxLen at hs3
    clear hk ih hnB
    by_cases g1 : L = 0
    · subst g1
      have HR := hide (right_no kd m nm md kids 0 d (.inl rfl))
      go_enter Tryz.func27, Tryz.ntmps27
      go_wp2
      go_ret
      refine ⟨ret_bool (unhide HR).symm, _, (ck_dec ⟨hc0, hf0⟩ hB _ _).1, fun h => ?_, (ck_dec ⟨hc0, hf0⟩ hB _ _).2⟩
      rw [unhide HR] at h; simp at h
    have hL1 : 1 ≤ L := by omega
    by_cases g2 : 16 < d
    · have HR := hide (right_no kd m nm md kids L d (.inr (.inl (by omega))))
      go_enter Tryz.func27, Tryz.ntmps27
      go_wp2
      go_ret
      refine ⟨ret_bool (unhide HR).symm, _, (ck_dec ⟨hc0, hf0⟩ hB _ _).1, fun h => ?_, (ck_dec ⟨hc0, hf0⟩ hB _ _).2⟩
      rw [unhide HR] at h; simp at h
    have HCC : Hid (Ck w B L) := hide ⟨hc0, hf0⟩
    go_enter Tryz.func27, Tryz.ntmps27
    go_wp2_with fail
    refine (unhide HKD _).mono ?_
    rintro r w2 ⟨T, F, rfl, hR, hb2⟩
    obtain ⟨hk1, hk2⟩ := ck_dec (unhide HCC) hB ((L : Int) - 1) (.cells #[.int .i64 kd, .int .i64 m, .string nm, .string md, .slice a kids.length cap] 31)
    have hk3 := hk1.below hb2 (by simp; omega)
    have hk4 := gr_trans hk2 (gr_below hb2 _)
    have n1 : Blk w2 w.heap.size [.int .i64 kd, .int .i64 m, .string nm, .string md, .slice a kids.length cap] := by
      have := (Blk.new (w.setCell ⟨B, 0, none⟩ (.int .i64 ((L : Int) - 1))) [.int .i64 kd, .int .i64 m, .string nm, .string md, .slice a kids.length cap] 31).below hb2 (by simp)
      rw [set_size] at this
      exact this
    have hz2 : w.heap.size < w2.heap.size := by have := hb2.size; rw [alloc_size, set_size] at this; omega
    obtain ⟨hm0, he0, hcall⟩ := hR
    have hen : ∀ W, (callFunc F #[.agg #[.int .i64 kd, .int .i64 m, .string nm, .string md, .slice a kids.length cap]]).run Tryz.prog W = .ok (.enter F #[.agg #[.int .i64 kd, .int .i64 m, .string nm, .string md, .slice a kids.length cap]]) W := he0
    clear he0
    have hm : ∀ W, (method 271 T (.agg #[.int .i64 kd, .int .i64 m, .string nm, .string md, .slice a kids.length cap]) "loop.example/smithy/impl.right").run Tryz.prog W = .ok (F, .agg #[.int .i64 kd, .int .i64 m, .string nm, .string md, .slice a kids.length cap]) W := hm0
    clear hm0
    have N1 := hide n1
    have HC2 := hide hk3
    have HG2 := hide hk4
    have HZ2 := hide hz2
    have HCALL := hide hcall
    clear hb2 hk1 hk2 hk3 hk4 n1 hz2 hcall hc0 hf0 HKD HCC
    go_wp2_with fail
    refine (unhide HCALL w2).mono ?_
    rintro r w3 ⟨rfl, hb3⟩
    have p4 := ((unhide N1).below hb3 (unhide HZ2)).cellAt (i := 4) rfl
    have HC3 := hide ((unhide HC2).below hb3 (by have := unhide HZ2; omega))
    have HG3 := hide (gr_trans (unhide HG2) (gr_below hb3 _))
    have HZ3 : Hid (w.heap.size < w3.heap.size) := hide (by have := unhide HZ2; have := hb3.size; omega)
    clear hm hen hb3 N1 HC2 HG2 HZ2 HCALL
    cases hnb : nodeB kd m nm md kids.length with
    | false =>
      have HR := hide (right_no kd m nm md kids L d (.inr (.inr hnb)))
      go_wp2
      go_ret
      refine ⟨ret_bool (unhide HR).symm, _, unhide HC3, fun h => ?_, unhide HG3⟩
      rw [unhide HR] at h; simp at h
    | true =>
    have HNB2 := hide hnb
    clear hnb
    go_wp2
    clear p4
    go_loopw [34] (fun i wr => ∃ k M : Nat, k ≤ kids.length ∧ i = .int .i64 k ∧ M ≤ 150 ∧ Hid (1 + nodesL (kids.take k) + M = L) ∧ Hid (d + 1 + deepL (kids.take k) ≤ 17) ∧ Hid (okL (kids.take k) = true) ∧ Hid (Ck wr B M) ∧ Hid (w.grownBy wr (some B))) (fun i _ => kids.length - (intOf i).toNat)
    case atStart =>
      refine ⟨0, L - 1, Nat.zero_le _, rfl, by omega, hide (by simp [nodesL]; omega), hide (by simp [deepL]; omega), hide rfl, ?_, HG3⟩
      have e : ((L - 1 : Nat) : Int) = (L : Int) - 1 := by omega
      rw [e]; exact HC3
    case round =>
      clear HC3 HG3 HZ3
      obtain ⟨k, M, hk, rfl, hM, HM, HD, HO, HC, HG⟩ := hrel
      have hBr : B < wr.heap.size := by have := (unhide HG).size; omega
      by_cases hp : k < kids.length
      · have hsm : Same lo n w wr := gr_same (unhide HG) (unhide HNB) (by omega)
        rcases (unhide HK).mono (IsE.same hsm (Nat.le_refl _) (Nat.le_refl _) h) hsm (Nat.le_refl _) (Nat.le_refl _) with hq | ⟨b, off, rfl, hbl, hbn, hcs⟩
        · rw [hq] at hp; simp at hp
        obtain ⟨c0, c1, c2, c3, c4, d0, d1, d2, d3, d4, hr⟩ := hcs k hp
        have hs1 := nodes_step kids k hp
        have hs2 := deep_step kids k hp
        have hs3' := ok_step kids k hp
        have hs4 := right_kid kd m nm md kids L d k M hp (unhide HM)
        obtain ⟨e, he⟩ : ∃ e, kids[k] = e := ⟨_, rfl⟩
        rw [he] at hr hs1 hs2 hs3' hs4
        obtain ⟨xk, xm, xn, xd, xa, xl, xc, rfl, rfl, rfl, rfl, rfl⟩ := hr.form5
        have hbz : b < wr.heap.size := by have := unhide HNB; omega
        have HS1 := hide hs1
        have HS2 := hide hs2
        have HS3 := hide hs3'
        have HS4 := hide hs4
        have HE := hide hr
        have HCALL : Hid (∀ W, Below wr.heap.size wr W → Calls Tryz.prog 27 #[.pointer (some ⟨B, 0, none⟩), EV xk xm xn xd xa xl xc, .int .i64 ((d : Int) + 1)] W fun r w' => r = .returned (.bool (e.rightB M (d + 1))) ∧ ∃ L' : Int, Ck w' B L' ∧ (e.rightB M (d + 1) = true → L' = (M : Int) - e.nodes) ∧ W.grownBy w' (some B)) := hide (fun W hb => by
          have := unhide IH _ e W M (d + 1) (IsE.same (fun b _ h2 => hb.block b (by have := unhide HNB; omega)) (Nat.le_refl _) (Nat.le_refl _) h _ _ (unhide HE)) (by have := hb.size; omega) ((unhide HC).below hb hBr) hM (by omega) (by omega)
          rw [show (((d + 1 : Nat)) : Int) = (d : Int) + 1 from by omega] at this
          exact this)
        clear hcs hr hs1 hs2 hs3' hs4 he hsm
        go_wp2_with fail
        refine (unhide HCALL _ ?hb).mono ?_
        case hb => exact (Below.refl _ _).alloc (Nat.le_refl _) _
        rintro r w4 ⟨rfl, L', hC4, hL4, hG4⟩
        have HG4 := hide (gr_trans (unhide HG) (gr_trans (World.grownBy_alloc _ _ _) hG4))
        have HC4 := hide hC4
        have HL4 := hide hL4
        clear hC4 hL4 hG4 HC HG HCALL d0 d1 d2 d3 d4 HE
        cases hrk : e.rightB M (d + 1) with
        | false =>
          have HR := hide (unhide HS4 hrk)
          go_wp2
          go_ret
          refine ⟨ret_bool (unhide HR).symm, _, unhide HC4, fun h => ?_, unhide HG4⟩
          rw [unhide HR] at h; simp at h
        | true =>
          obtain ⟨y1, y2, y3⟩ := right_kid_yes hrk
          have HX : Hid (1 + nodesL (kids.take (k + 1)) + (M - e.nodes) = L ∧ d + 1 + deepL (kids.take (k + 1)) ≤ 17 ∧ okL (kids.take (k + 1)) = true ∧ Ck w4 B ((M - e.nodes : Nat) : Int)) := hide (by
            refine ⟨by rw [unhide HS1]; have := unhide HM; omega, ?_, by rw [unhide HS3, unhide HO, y3]; rfl, ?_⟩
            · rw [unhide HS2]
              have := unhide HD
              have : Nat.max (deepL (kids.take k)) e.deep ≤ 16 - d := Nat.max_le.2 ⟨by omega, by omega⟩
              omega
            · have := unhide HL4 hrk
              rw [show ((M - e.nodes : Nat) : Int) = L' from by omega]
              exact unhide HC4)
          have hM2 : M - e.nodes ≤ 150 := by omega
          clear y1 y2 y3
          go_wp2
          go_roundw
          case rel => exact ⟨k + 1, M - e.nodes, by omega, by go_num, hM2, hide (unhide HX).1, hide (unhide HX).2.1, hide (unhide HX).2.2.1, hide (unhide HX).2.2.2, HG4⟩
          case measure => simp [intOf]; omega
      · have he : kids.take k = kids := List.take_of_length_le (by omega)
        rw [he] at HM HD HO
        have HR := hide (right_end kd m nm md kids L d M (unhide HM) (unhide HD) (unhide HNB2) (unhide HO))
        clear he
        go_wp2
        go_ret
        refine ⟨ret_bool (unhide HR).symm, _, unhide HC, fun _ => ?_, unhide HG⟩
        rw [TE.nodes]; have := unhide HM; omega
end Go.Proofs.YtffabnmgcicpiaaGreat

namespace Go.Proofs.YtffabnmgcicpiaaGreat
open Go.RowKit Go.PlainAid

theorem right_from (e : TE) (N M : Nat) (h : N + M = 150) : e.rightB M 1 = rightFrom N e := by
  unfold TE.rightB rightFrom
  rw [show decide (e.nodes ≤ M) = decide (N + e.nodes ≤ 150) from decide_eq_decide.2 (by omega), show decide (1 + e.deep ≤ 17) = decide (e.deep ≤ 16) from decide_eq_decide.2 (by omega)]
theorem own_other {W W' : World} {base e s n B : Nat} {v : Value} {xs : List Value} (h : W.ownsRow base e s v n xs) (hg : W.grownBy W' (some B)) (hB : B < base) : W'.ownsRow base e s v n xs :=
  h.kept hg (by
    cases hv : v.ownBlock with
    | none => exact .inl rfl
    | some k => exact .inr (fun e => by
        have := (h.lt k hv).1
        simp at e; omega))
theorem below_gr {w w' W : World} {B n : Nat} (hb : Below n w W) (hg : W.grownBy w' (some B)) (hn : n ≤ B) (hs : n ≤ W.heap.size) : Below n w w' :=
  hb.grown hg hs (fun k e => by simp at e; omega)

set_option maxRecDepth 100000 in
set_option maxHeartbeats 8000000 in
theorem TreeOkI_any (lo h : Nat) (v : Value) (m : TM) (w : World) (hM : IsMod w lo w.heap.size h v m) :
    Calls Tryz.prog 11 #[v] w fun r w' => r = .returned (.bool m.okB) ∧ Below w.heap.size w w' := by
  obtain ⟨i0, hi, hz0, hz1, hz2⟩ := info_parts wsinfo
  have HX := hide (ok_late m)
  obtain ⟨us, fs, mn⟩ := m
  obtain ⟨a1, a2, a3, k1, k2, k3, rfl, ⟨z1, z2, z3, z4, z5⟩, q1, q2, q3⟩ := hM
  dsimp only at z1 z2 z3 z5 q1 q2 q3 HX ⊢
  generalize TM.okB _ = R at HX ⊢
  have HU := hide (fun (w' : World) (hb : Below w.heap.size w w') => namesOk_any lo a1 k1 us w' (q1.kept hb hb.size) z1 z5)
  have HQ2 := hide q2
  have HQ3 := hide q3
  unfold maxLen at z1 z2 z3
  clear q1 q2 q3 z4
  by_cases g1 : 4 < us.length
  · have HR : Hid (R = false) := hide (by rw [unhide HX, decide_eq_false (by omega)]; rfl)
    go_enter Tryz.func11, Tryz.ntmps11
    go_wp2
    go_ret
    exact ⟨ret_bool (unhide HR).symm, (Below.refl _ _).alloc (Nat.le_refl _) _⟩
  by_cases g2 : 8 < fs.length
  · have HR : Hid (R = false) := hide (by rw [unhide HX, decide_eq_false (p := fs.length ≤ 8) (by omega)]; simp)
    go_enter Tryz.func11, Tryz.ntmps11
    go_wp2
    go_ret
    exact ⟨ret_bool (unhide HR).symm, (Below.refl _ _).alloc (Nat.le_refl _) _⟩
  by_cases g3 : 1 < mn.length
  · have HR : Hid (R = false) := hide (by rw [unhide HX, decide_eq_false (p := mn.length ≤ 1) (by omega)]; simp)
    go_enter Tryz.func11, Tryz.ntmps11
    go_wp2
    go_ret
    exact ⟨ret_bool (unhide HR).symm, (Below.refl _ _).alloc (Nat.le_refl _) _⟩
  have HX1 : Hid (R = lateB us mn 0 [] fs) := hide (by rw [unhide HX, decide_eq_true (by omega), decide_eq_true (by omega), decide_eq_true (by omega)]; rfl)
  clear HX
  go_enter Tryz.func11, Tryz.ntmps11
  go_wp2
  go_loopw [4, 29] (fun o i wr => ∃ k N M : Nat, k ≤ fs.length ∧ i = .int .i64 k ∧ N + M = 150 ∧ wr.ownsRow (w.heap.size + 2) 9 1 o k (((fs.take k).map TF.name).map Value.string) ∧ Hid (R = lateB us mn N ((fs.take k).map TF.name) (fs.drop k)) ∧ Hid (Ck wr (w.heap.size + 1) M) ∧ wr.cell? ⟨w.heap.size, 0, none⟩ = some (.slice a1 us.length k1) ∧ wr.cell? ⟨w.heap.size, 2, none⟩ = some (.slice a3 mn.length k3) ∧ w.heap.size + 2 ≤ wr.heap.size ∧ Hid (Below w.heap.size w wr)) (fun _ i _ => fs.length - (intOf i).toNat)
  case atStart =>
    refine ⟨0, 0, 150, Nat.zero_le _, rfl, rfl, World.ownsRow_nil _ _ _ _, HX1, hide ⟨by simp, by simp⟩, by simp, by simp, by simp, hide (((Below.refl _ _).alloc (Nat.le_refl _) _).alloc (by simp) _)⟩
  case round =>
    clear HX1
    obtain ⟨k, N, M, hk, rfl, hNM, hrow, HX2, HC, hc0, hc2, hsz, HB⟩ := hrel
    by_cases hp : k < fs.length
    · rcases (unhide HQ2) with hq | ⟨b, off, rfl, hbl, hbn, hcs⟩
      · rw [hq] at hp; simp at hp
      obtain ⟨c0, c1, c2, c3, c4, c5, c6, c7, c8, d0, d1, d2, d3, d4, d5, d6, d7, d8, hr⟩ := hcs k hp
      have htk : fs.take (k + 1) = fs.take k ++ [fs[k]] := List.take_succ_eq_append_getElem hp
      have hlt := late_at us mn fs N k ((fs.take k).map TF.name) hp
      obtain ⟨f, hf⟩ : ∃ f, fs[k] = f := ⟨_, rfl⟩
      rw [hf] at hr htk hlt
      obtain ⟨aa, ca, b0, b1, b2, b3, b4, hv, hzz, haa, hE⟩ := hr
      simp only [Value.agg.injEq, Array.mk.injEq, List.cons.injEq, and_true] at hv
      obtain ⟨rfl, rfl, rfl, rfl, rfl, rfl, rfl, rfl, rfl⟩ := hv
      obtain ⟨xk, xm, xn, xd, xa, xl, xc, rfl, rfl, rfl, rfl, rfl⟩ := hE.form5
      have HF := hide (fun (w' : World) (hb : Below w.heap.size w w') => headOk_any lo h _ f w' (IsFun.same h (Below.same hb) (Nat.le_refl _) hb.size _ _ ⟨aa, ca, _, _, _, _, _, rfl, hzz, haa, hE⟩))
      have HE := hide (fun (w' : World) (hb : Below w.heap.size w w') (hs : w.heap.size + 2 ≤ w'.heap.size) (hC : Ck w' (w.heap.size + 1) M) => checkRight_any lo w.heap.size (w.heap.size + 1) (by omega) h _ f.body w' M 1 (IsE.same (Below.same hb) (Nat.le_refl _) (Nat.le_refl _) h _ _ hE) (by omega) hC (by omega) (by omega) (by omega))
      have hD : ∀ o v, w.cell? ⟨b, o, none⟩ = some v → wr.cell? ⟨b, o, none⟩ = some v := fun o v hv => ((unhide HB).cell (p := ⟨b, o, none⟩) hbn).trans hv
      have e0 := hD _ _ d0
      have e1 := hD _ _ d1
      have e2 := hD _ _ d2
      have e3 := hD _ _ d3
      have e4 := hD _ _ d4
      have e5 := hD _ _ d5
      have e6 := hD _ _ d6
      have e7 := hD _ _ d7
      have e8 := hD _ _ d8
      have HTK := hide htk
      have HLT := hide ((unhide HX2).trans hlt)
      obtain ⟨vs, cp, rfl⟩ := own_slice hrow
      have HROW := hide hrow
      clear hcs hf htk hlt hzz haa hE hD d0 d1 d2 d3 d4 d5 d6 d7 d8 HX2
      go_wp2_with (first | (at_builtin; refine wpList_append_own _ rfl _ _ 23 rfl (w.heap.size + 2) 9 i0 (.string ⟨#[]⟩) 1 16 Tryz.underlying23 hi hz0 hz1 hz2 rfl (by decide) _ _ _ rfl ((hrow.alloc _).alloc _) ⟨wr.heap.size + 1, 0, none⟩ 1 1 [.string f.name] rfl rfl ?cn (by simp [Value.oneCell']) (by unfold maxLen; omega) (by omega) (by simp; omega) ?_; rotate_left; intro v2 w2 hown2 hgrow2 _; obtain ⟨g2, cap2, rfl⟩ := own_succ hown2; obtain ⟨hown3, hbb⟩ := own_next ((unhide HROW).alloc _) (by simp; omega) hown2 hgrow2; have hne : some wr.heap.size ≠ (Value.slice vs k cp).ownBlock := (fun e => by have := ((unhide HROW).lt _ e.symm).2; simp at this); have s0 : w2.cell? ⟨wr.heap.size, 0, none⟩ = some (.string f.name) := hgrow2.cell (by simp) hne; have s1 : w2.cell? ⟨wr.heap.size, 1, none⟩ = some (.bool f.pub) := hgrow2.cell (by simp) hne; have s2 : w2.cell? ⟨wr.heap.size, 2, none⟩ = some (.slice aa f.args.length ca) := hgrow2.cell (by simp) hne; have s3 : w2.cell? ⟨wr.heap.size, 3, none⟩ = some (.int .i64 f.type) := hgrow2.cell (by simp) hne; have s4 : w2.cell? ⟨wr.heap.size, 4, none⟩ = some (.int .i64 xk) := hgrow2.cell (by simp) hne; have s5 : w2.cell? ⟨wr.heap.size, 5, none⟩ = some (.int .i64 xm) := hgrow2.cell (by simp) hne; have s6 : w2.cell? ⟨wr.heap.size, 6, none⟩ = some (.string xn) := hgrow2.cell (by simp) hne; have s7 : w2.cell? ⟨wr.heap.size, 7, none⟩ = some (.string xd) := hgrow2.cell (by simp) hne; have s8 : w2.cell? ⟨wr.heap.size, 8, none⟩ = some (.slice xa xl xc) := hgrow2.cell (by simp) hne; have hbw : Below (w.heap.size + 2) wr w2 := ((Below.refl _ wr).alloc (by omega) _).trans hbb; have HO3 := hide hown3; have HBW := hide hbw; have hrs : wr.heap.size < w2.heap.size := (by have := hgrow2.size; simp at this; omega); clear hown2 hgrow2 hown3 hbb hbw hrow e0 e1 e2 e3 e4 e5 e6 e7 e8 hne))
      case cn =>
        have := cell_one_new (wr.alloc (.cells #[.string f.name, .bool f.pub, .slice aa f.args.length ca, .int .i64 f.type, .int .i64 xk, .int .i64 xm, .string xn, .string xd, .slice xa xl xc] 33)) (.string f.name) 9
        rw [alloc_size] at this
        exact this
      have HB2 := hide ((unhide HB).trans ((unhide HBW).mono (by omega)))
      refine (unhide HF w2 (unhide HB2)).mono ?_
      rintro r w3 ⟨rfl, hb3⟩
      have hB3 := (unhide HB2).trans (hb3.mono (unhide HB2).size)
      have t4 := (hb3.cell (p := ⟨wr.heap.size, 4, none⟩) hrs).trans s4
      have t5 := (hb3.cell (p := ⟨wr.heap.size, 5, none⟩) hrs).trans s5
      have t6 := (hb3.cell (p := ⟨wr.heap.size, 6, none⟩) hrs).trans s6
      have t7 := (hb3.cell (p := ⟨wr.heap.size, 7, none⟩) hrs).trans s7
      have t8 := (hb3.cell (p := ⟨wr.heap.size, 8, none⟩) hrs).trans s8
      have hC2 : Ck w2 (w.heap.size + 1) M := ⟨((unhide HBW).cell (p := ⟨w.heap.size + 1, 0, none⟩) (by show w.heap.size + 1 < _; omega)).trans (unhide HC).1, ((unhide HBW).frozen (p := ⟨w.heap.size + 1, 0, none⟩) (by show w.heap.size + 1 < _; omega)).trans (unhide HC).2⟩
      have hC3 := hC2.below hb3 (by omega)
      have hs3 : w.heap.size + 2 ≤ w3.heap.size := by have := hb3.size; omega
      have u0 := (hb3.cell (p := ⟨w.heap.size, 0, none⟩) (by show w.heap.size < _; omega)).trans (((unhide HBW).cell (p := ⟨w.heap.size, 0, none⟩) (by show w.heap.size < _; omega)).trans hc0)
      have u2 := (hb3.cell (p := ⟨w.heap.size, 2, none⟩) (by show w.heap.size < _; omega)).trans (((unhide HBW).cell (p := ⟨w.heap.size, 2, none⟩) (by show w.heap.size < _; omega)).trans hc2)
      have HROW3 := hide (own_kept (unhide HO3) hb3)
      have HB3 := hide hB3
      have HC3 := hide hC3
      clear hb3 hB3 hC2 hC3 s0 s1 s2 s3 s4 s5 s6 s7 s8 HB2 HBW HO3 HROW HC HB hc0 hc2 HF
      cases hhd : f.headB with
      | false =>
        have HR : Hid (R = false) := hide (by rw [unhide HLT, hhd]; rfl)
        go_wp2
        go_ret
        exact ⟨ret_bool (unhide HR).symm, unhide HB3⟩
      | true =>
      have HLT2 : Hid (R = (f.body.rightB M 1 && lateB us mn (N + f.body.nodes) (((fs.take k).map TF.name) ++ [f.name]) (fs.drop (k + 1)))) := hide (by rw [unhide HLT, hhd, right_from f.body N M hNM]; rfl)
      clear HLT
      go_wp2_with fail
      refine (unhide HE w3 (unhide HB3) hs3 (unhide HC3)).mono ?_
      rintro r w4 ⟨rfl, L', hC4, hL4, hG4⟩
      have HROW4 := hide (own_other (unhide HROW3) hG4 (by omega))
      have v0 : w4.cell? ⟨w.heap.size, 0, none⟩ = some (.slice a1 us.length k1) := hG4.cell u0 (by simp)
      have v2 : w4.cell? ⟨w.heap.size, 2, none⟩ = some (.slice a3 mn.length k3) := hG4.cell u2 (by simp)
      have hs4 : w.heap.size + 2 ≤ w4.heap.size := by have := hG4.size; omega
      have HB4 := hide (below_gr (unhide HB3) hG4 (by omega) (by omega))
      have HC4 := hide hC4
      have HL4 := hide hL4
      clear hC4 hL4 hG4 u0 u2 t4 t5 t6 t7 t8 HB3 HC3 HROW3 HE
      cases hrb : f.body.rightB M 1 with
      | false =>
        have HR : Hid (R = false) := hide (by rw [unhide HLT2, hrb]; rfl)
        go_wp2
        go_ret
        exact ⟨ret_bool (unhide HR).symm, unhide HB4⟩
      | true =>
      have hnd := (right_kid_yes hrb).1
      have HC5 : Hid (Ck w4 (w.heap.size + 1) ((M - f.body.nodes : Nat) : Int)) := hide (by
        have := unhide HL4 hrb
        rw [show ((M - f.body.nodes : Nat) : Int) = L' from by omega]
        exact unhide HC4)
      have HX5 : Hid (R = lateB us mn (N + f.body.nodes) ((fs.take (k + 1)).map TF.name) (fs.drop (k + 1))) := hide (by rw [unhide HLT2, hrb, unhide HTK, List.map_append]; rfl)
      have HR5 : Hid (w4.ownsRow (w.heap.size + 2) 9 1 (.slice (some ⟨g2, 0, none⟩) (k + 1) cap2) (k + 1) (((fs.take (k + 1)).map TF.name).map Value.string)) := hide (by rw [unhide HTK, List.map_append]; exact unhide HROW4)
      have hNM2 : N + f.body.nodes + (M - f.body.nodes) = 150 := by omega
      go_wp2
      go_roundw
      case rel => exact ⟨k + 1, N + f.body.nodes, M - f.body.nodes, by omega, by go_num, hNM2, unhide HR5, HX5, HC5, v0, v2, hs4, HB4⟩
      case measure => simp [intOf]; omega
    · have hek : k = fs.length := by omega
      subst hek
      rw [List.take_of_length_le (Nat.le_refl _)] at hrow HX2
      have HX3 : Hid (R = (mainsFrom N mn && (namesB us && namesB (fs.map TF.name)))) := hide (by rw [unhide HX2, List.drop_of_length_le (Nat.le_refl _), lateB])
      obtain ⟨vs, cp, rfl⟩ := own_slice hrow
      have HROW := hide hrow
      clear HX2 hrow HQ2
      go_wp2
      go_loopw [51] (fun i wq => ∃ j N M : Nat, j ≤ mn.length ∧ i = .int .i64 j ∧ N + M = 150 ∧ Hid (wq.ownsRow (w.heap.size + 2) 9 1 (.slice vs fs.length cp) fs.length ((fs.map TF.name).map Value.string)) ∧ Hid (R = (mainsFrom N (mn.drop j) && (namesB us && namesB (fs.map TF.name)))) ∧ Hid (Ck wq (w.heap.size + 1) M) ∧ wq.cell? ⟨w.heap.size, 0, none⟩ = some (.slice a1 us.length k1) ∧ w.heap.size + 2 ≤ wq.heap.size ∧ Hid (Below w.heap.size w wq)) (fun i _ => mn.length - (intOf i).toNat)
      case atStart => exact ⟨0, N, M, Nat.zero_le _, rfl, hNM, HROW, HX3, HC, hc0, hsz, HB⟩
      case round =>
        clear HROW HX3 HC hc0 hc2 hsz HB hNM
        obtain ⟨j, N, M, hj, rfl, hNM, HROW, HX4, HC, hc0, hsz, HB⟩ := hrel
        by_cases hp2 : j < mn.length
        · rcases (unhide HQ3) with hq | ⟨b, off, rfl, hbl, hbn, hcs⟩
          · rw [hq] at hp2; simp at hp2
          obtain ⟨c0, c1, c2, c3, c4, d0, d1, d2, d3, d4, hr⟩ := hcs j hp2
          have hma := mains_at mn N j hp2
          obtain ⟨e, he⟩ : ∃ e, mn[j] = e := ⟨_, rfl⟩
          rw [he] at hr hma
          obtain ⟨xk, xm, xn, xd, xa, xl, xc, rfl, rfl, rfl, rfl, rfl⟩ := hr.form5
          have HE := hide (fun (w' : World) (hb : Below w.heap.size w w') (hs : w.heap.size + 2 ≤ w'.heap.size) (hC : Ck w' (w.heap.size + 1) M) => checkRight_any lo w.heap.size (w.heap.size + 1) (by omega) h _ e w' M 1 (IsE.same (Below.same hb) (Nat.le_refl _) (Nat.le_refl _) h _ _ hr) (by omega) hC (by omega) (by omega) (by omega))
          have hD : ∀ o v, w.cell? ⟨b, o, none⟩ = some v → wr.cell? ⟨b, o, none⟩ = some v := fun o v hv => ((unhide HB).cell (p := ⟨b, o, none⟩) hbn).trans hv
          have e0 := hD _ _ d0
          have e1 := hD _ _ d1
          have e2 := hD _ _ d2
          have e3 := hD _ _ d3
          have e4 := hD _ _ d4
          have HMA : Hid (R = ((e.rightB M 1 && mainsFrom (N + e.nodes) (mn.drop (j + 1))) && (namesB us && namesB (fs.map TF.name)))) := hide (by rw [unhide HX4, hma, right_from e N M hNM])
          clear hcs he hma hr hD d0 d1 d2 d3 d4 HX4
          go_wp2_with fail
          refine (unhide HE _ ?hb ?hs ?hC).mono ?_
          case hb => exact (unhide HB).alloc (by omega) _
          case hs => simp; omega
          case hC => exact (unhide HC).below ((Below.refl _ _).alloc (Nat.le_refl _) _) (by omega)
          rintro r w4 ⟨rfl, L', hC4, hL4, hG4⟩
          have hG5 := gr_trans (World.grownBy_alloc wr (.cells #[.int .i64 xk, .int .i64 xm, .string xn, .string xd, .slice xa xl xc] 31) (some (w.heap.size + 1))) hG4
          have HROW4 := hide (own_other (unhide HROW) hG5 (by omega))
          have v0 : w4.cell? ⟨w.heap.size, 0, none⟩ = some (.slice a1 us.length k1) := hG5.cell hc0 (by simp)
          have hs4 : w.heap.size + 2 ≤ w4.heap.size := by have := hG5.size; omega
          have HB4 := hide (below_gr (unhide HB) hG5 (by omega) (by omega))
          have HC4 := hide hC4
          have HL4 := hide hL4
          clear hC4 hL4 hG4 hG5 e0 e1 e2 e3 e4 HB HC HROW HE hc0
          cases hrb : e.rightB M 1 with
          | false =>
            have HR : Hid (R = false) := hide (by rw [unhide HMA, hrb]; rfl)
            go_wp2
            go_ret
            exact ⟨ret_bool (unhide HR).symm, unhide HB4⟩
          | true =>
          have hnd := (right_kid_yes hrb).1
          have HC5 : Hid (Ck w4 (w.heap.size + 1) ((M - e.nodes : Nat) : Int)) := hide (by
            have := unhide HL4 hrb
            rw [show ((M - e.nodes : Nat) : Int) = L' from by omega]
            exact unhide HC4)
          have HX5 : Hid (R = (mainsFrom (N + e.nodes) (mn.drop (j + 1)) && (namesB us && namesB (fs.map TF.name)))) := hide (by rw [unhide HMA, hrb]; rfl)
          have hNM2 : N + e.nodes + (M - e.nodes) = 150 := by omega
          go_wp2
          go_roundw
          case rel => exact ⟨j + 1, N + e.nodes, M - e.nodes, by omega, by go_num, hNM2, HROW4, HX5, HC5, v0, hs4, HB4⟩
          case measure => simp [intOf]; omega
        · have HX5 : Hid (R = (namesB us && namesB (fs.map TF.name))) := hide (by rw [unhide HX4, List.drop_of_length_le (by omega), mainsFrom]; rfl)
          clear HX4 HC
          go_wp2_with fail
          refine (unhide HU _ (unhide HB)).mono ?_
          rintro r w5 ⟨rfl, hb5⟩
          have HROW5 := hide (own_kept (unhide HROW) hb5)
          have HB5 := hide ((unhide HB).trans (hb5.mono (unhide HB).size))
          clear hb5 HB HROW HU hc0
          cases hu : namesB us with
          | false =>
            have HR : Hid (R = false) := hide (by rw [unhide HX5, hu]; rfl)
            go_wp2
            go_ret
            exact ⟨ret_bool (unhide HR).symm, unhide HB5⟩
          | true =>
          have HR : Hid (R = namesB (fs.map TF.name)) := hide (by rw [unhide HX5, hu]; rfl)
          clear HX5 hu
          obtain ⟨va, vc, hve, hvc, hwd⟩ := own_wds (unhide HROW5) (by simp)
          rw [List.length_map] at hve hvc
          have hU := namesOk_any (w.heap.size + 2) va vc (fs.map TF.name) w5 hwd (by rw [List.length_map]; unfold maxLen; omega) (by rw [List.length_map]; exact hvc)
          rw [List.length_map, ← hve] at hU
          have HUU := hide hU
          clear hve hvc hwd hU
          go_wp2_with fail
          refine (unhide HUU).mono ?_
          rintro r w6 ⟨rfl, hb6⟩
          have HB6 := hide ((unhide HB5).trans (hb6.mono (unhide HB5).size))
          clear hb6
          go_wp2
          go_ret
          exact ⟨ret_bool (unhide HR).symm, unhide HB6⟩
end Go.Proofs.YtffabnmgcicpiaaGreat
