/- What a signature may be; the walks of spec.l3Sig and impl.faceSigOk. Conditions: the signature can be read. -/
import Derived.Test.YtifcfjjlgehopaaFe
import Derived.Test.YtifcfjjlgehopaaWb
import Derived.Test.YtifcfjjlgehopaaKt
namespace Go.Proofs.Ytifcfjjlgehopaa
open Go.RowKit Go.PlainAid

def typF (t : Int) : Bool := !((typeW t).toList == [])
theorem typF_no {t : Int} (h : typF t = false) : ((typeW t).toList == []) = true := by unfold typF at h; simpa using h
theorem typF_yes {t : Int} (h : typF t = true) : ((typeW t).toList == []) = false := by unfold typF at h; simpa using h
def TS.ok (s : TS) : Bool := nameB s.name.data.toList && (decide (s.args.length ≤ 4) && (typF s.type && s.args.all typF))
theorem allF_no {zs : List Int} {k : Nat} (hk : k < zs.length) (h : typF zs[k] = false) : zs.all typF = false := by
  rw [List.all_eq_false]
  exact ⟨_, List.getElem_mem hk, by rw [h]; simp⟩
theorem allF_yes {zs : List Int} (h : ∀ j (hj : j < zs.length), typF zs[j] = true) : zs.all typF = true := by
  rw [List.all_eq_true]
  intro x hx
  obtain ⟨j, hj, rfl⟩ := List.getElem_of_mem hx
  exact h j hj

set_option maxHeartbeats 2000000 in
theorem l3Sig_any (lo : Nat) (v : Value) (s : TS) (w : World) (hS : IsSig w lo w.heap.size v s) :
    Calls Try.prog 19 #[v] w fun r w' => r = .returned (.bool s.ok) ∧ Below w.heap.size w w' := by
  have HX : Hid (s.ok = (nameB s.name.data.toList && (decide (s.args.length ≤ 4) && (typF s.type && s.args.all typF)))) := hide rfl
  obtain ⟨nm, args, ty⟩ := s
  obtain ⟨aa, ca, rfl, ⟨hs1, hs2⟩, ha⟩ := hS
  dsimp only at hs1 hs2 ha HX ⊢
  generalize TS.ok _ = R at HX ⊢
  unfold maxLen at hs1 hs2
  have HA := hide ha
  clear ha
  go_enter Try.func19, Try.ntmps19
  go_wp2_with fail
  refine (LexNameS_any _ _).mono ?_
  rintro r w2 ⟨rfl, hb2⟩
  have hB2 : Below w.heap.size w w2 := ((Below.refl _ w).alloc (Nat.le_refl _) _).trans (hb2.mono (by simp))
  have n1 : Blk w2 w.heap.size [Value.string nm, Value.slice aa args.length ca, Value.int .i64 ty] := (Blk.new w [Value.string nm, Value.slice aa args.length ca, Value.int .i64 ty] 48).below hb2 (by simp)
  have hS2 : w.heap.size < w2.heap.size := by have := hb2.size; rw [alloc_size] at this; omega
  have p1 := n1.cellAt (i := 1) rfl
  have p2 := n1.cellAt (i := 2) rfl
  have N1 := hide n1
  have HB2 := hide hB2
  have HS2 := hide hS2
  clear n1 hb2 hB2 hS2
  cases hn : nameB nm.data.toList with
  | false =>
    have HR : Hid (R = false) := hide (by rw [unhide HX, hn]; rfl)
    go_wp2
    go_ret
    exact ⟨ret_bool (unhide HR).symm, unhide HB2⟩
  | true =>
    by_cases h4 : 4 < args.length
    · have HR : Hid (R = false) := hide (by rw [unhide HX, decide_eq_false (by omega)]; simp)
      go_wp2
      go_ret
      exact ⟨ret_bool (unhide HR).symm, unhide HB2⟩
    have HX1 : Hid (R = (typF ty && args.all typF)) := hide (by rw [unhide HX, hn, decide_eq_true (by omega)]; simp)
    clear HX
    go_wp2_with fail
    refine (TreeTypeS_any _ _).mono ?_
    rintro r w3 ⟨rfl, hb3⟩
    have hB3 : Below w.heap.size w w3 := (unhide HB2).trans (hb3.mono (unhide HB2).size)
    have n1 := (unhide N1).below hb3 (unhide HS2)
    have hS3 : w.heap.size < w3.heap.size := by have := hb3.size; have := unhide HS2; omega
    have N2 := hide n1
    have HB3 := hide hB3
    have HS3 := hide hS3
    clear n1 hb3 hB3 hS3 N1 HB2 HS2 p1 p2
    cases ht : typF ty with
    | false =>
      have hte := typF_no ht
      have HR : Hid (R = false) := hide (by rw [unhide HX1, ht]; rfl)
      go_wp2
      go_ret
      exact ⟨ret_bool (unhide HR).symm, unhide HB3⟩
    | true =>
      have hte := typF_yes ht
      have HX2 : Hid (R = args.all typF) := hide (by rw [unhide HX1, ht]; rfl)
      clear HX1
      go_wp2
      go_loopw [3] (fun i wr => ∃ k : Nat, k ≤ args.length ∧ i = .int .i64 k ∧ Hid (∀ j (hj : j < args.length), j < k → typF args[j] = true) ∧ Hid (Below w.heap.size w wr) ∧ Hid (Blk wr w.heap.size [Value.string nm, Value.slice aa args.length ca, Value.int .i64 ty]) ∧ Hid (w.heap.size < wr.heap.size)) (fun i _ => args.length - (intOf i).toNat)
      case atStart => exact ⟨0, Nat.zero_le _, rfl, hide (fun j _ hj => absurd hj (Nat.not_lt_zero _)), HB3, N2, HS3⟩
      case round =>
        obtain ⟨k, hk, rfl, HI, HB, HN, HZ⟩ := hrel
        have p1 := (unhide HN).cellAt (i := 1) rfl
        by_cases hp : k < args.length
        · rcases (unhide HA).kept (unhide HB) (Nat.le_refl _) with h | ⟨b, off, rfl, hbl, hb, hc⟩
          · rw [h] at hp; simp at hp
          have hck := hc k hp
          have HT1 := hide (fun h => allF_no (zs := args) hp h)
          have HT2 := hide (fun (h : typF (args[k]'hp) = true) (j : Nat) (hj : j < args.length) (hjk : j < k + 1) => show typF args[j] = true from by
            by_cases e : j = k
            · subst e; exact h
            · exact unhide HI j hj (by omega))
          obtain ⟨x, hx⟩ : ∃ x, args[k]'hp = x := ⟨_, rfl⟩
          rw [hx] at hck HT1 HT2
          clear hc hx HI
          go_wp2_with fail
          refine (TreeTypeS_any _ _).mono ?_
          rintro r w4 ⟨rfl, hb4⟩
          have HB4 := hide ((unhide HB).trans (hb4.mono (unhide HB).size))
          have HN4 := hide ((unhide HN).below hb4 (unhide HZ))
          have HZ4 : Hid (w.heap.size < w4.heap.size) := hide (by have := hb4.size; have := unhide HZ; omega)
          clear hb4 HB HN HZ p1
          cases hx : typF x with
          | false =>
            have hte := typF_no hx
            have HR : Hid (R = false) := hide (by rw [unhide HX2]; exact unhide HT1 hx)
            go_wp2
            go_ret
            exact ⟨ret_bool (unhide HR).symm, unhide HB4⟩
          | true =>
            have hte := typF_yes hx
            have HI2 := hide (unhide HT2 hx)
            go_wp2
            go_roundw
            case rel => exact ⟨k + 1, by omega, by go_num, HI2, HB4, HN4, HZ4⟩
            case measure => simp [intOf]; omega
        · have HR : Hid (R = true) := hide (by rw [unhide HX2]; exact allF_yes (fun j hj => unhide HI j hj (by omega)))
          go_wp2
          go_ret
          exact ⟨ret_bool (unhide HR).symm, unhide HB⟩

def typesB (args : List Int) (ty : Int) : Bool := decide (args.length ≤ 4) && (typF ty && args.all typF)
set_option maxHeartbeats 2000000 in
theorem faceTypesOk_any (lo : Nat) (aa : Option Addr) (ca : Nat) (args : List Int) (ty : Int) (w : World) (ha : IsInts w lo w.heap.size aa args) (hs2 : args.length ≤ maxLen) :
    Calls Try.prog 44 #[.slice aa args.length ca, .int .i64 ty] w fun r w' => r = .returned (.bool (typesB args ty)) ∧ w = w' := by
  obtain ⟨R, hR⟩ : ∃ R, typesB args ty = R := ⟨_, rfl⟩
  rw [hR]
  have HX : Hid (R = (decide (args.length ≤ 4) && (typF ty && args.all typF))) := hide hR.symm
  unfold maxLen at hs2
  have HA := hide ha
  clear ha hR
  by_cases h4 : 4 < args.length
  · have HR : Hid (R = false) := hide (by rw [unhide HX, decide_eq_false (by omega)]; rfl)
    go_enter Try.func44, Try.ntmps44
    go_wp2
    go_ret
    exact ⟨ret_bool (unhide HR).symm, rfl⟩
  have HX1 : Hid (R = (typF ty && args.all typF)) := hide (by rw [unhide HX, decide_eq_true (by omega)]; rfl)
  clear HX
  go_enter Try.func44, Try.ntmps44
  go_wp2
  go_loop [6, 12] (fun _ i => ∃ k : Nat, k ≤ args.length ∧ i = .int .i64 k ∧ Hid (∀ j (hj : j < args.length), j < k → typF args[j] = true)) (fun _ i => args.length - (intOf i).toNat)
  case atStart => exact ⟨0, Nat.zero_le _, rfl, hide (fun j _ hj => absurd hj (Nat.not_lt_zero _))⟩
  case round =>
    obtain ⟨k, hk, rfl, HI⟩ := hrel
    by_cases hp : k < args.length
    · rcases unhide HA with h | ⟨b, off, rfl, hbl, hb, hc⟩
      · rw [h] at hp; simp at hp
      have hck := hc k hp
      have HT1 := hide (fun h => allF_no (zs := args) hp h)
      have HT2 := hide (fun (h : typF (args[k]'hp) = true) (j : Nat) (hj : j < args.length) (hjk : j < k + 1) => show typF args[j] = true from by
        by_cases e : j = k
        · subst e; exact h
        · exact unhide HI j hj (by omega))
      obtain ⟨x, hx⟩ : ∃ x, args[k]'hp = x := ⟨_, rfl⟩
      rw [hx] at hck HT1 HT2
      clear hc hx HI
      go_wp2_with fail
      refine (TreeTypeI_any _ _).mono ?_
      rintro r w4 ⟨rfl, rfl⟩
      cases hx : typF x with
      | false =>
        have hte := typF_no hx
        have HR : Hid (R = false) := hide (by rw [unhide HX1, unhide HT1 hx, Bool.and_false])
        go_wp2
        go_ret
        exact ⟨ret_bool (unhide HR).symm, rfl⟩
      | true =>
        have hte := typF_yes hx
        have HI2 := hide (unhide HT2 hx)
        go_wp2
        go_round
        case rel => exact ⟨k + 1, by omega, by go_num, HI2⟩
        case measure => simp [intOf]; omega
    · have HR1 : Hid (R = typF ty) := hide (by rw [unhide HX1, allF_yes (fun j hj => unhide HI j hj (by omega)), Bool.and_true])
      go_wp2_with fail
      refine (TreeTypeI_any _ _).mono ?_
      rintro r w4 ⟨rfl, rfl⟩
      go_wp2
      go_ret
      exact ⟨ret_bool (by rw [unhide HR1]; unfold typF; cases (typeW ty).toList <;> rfl), rfl⟩

set_option maxHeartbeats 2000000 in
theorem faceSigOk_any (lo : Nat) (v : Value) (s : TS) (w : World) (hS : IsSig w lo w.heap.size v s) :
    Calls Try.prog 21 #[v] w fun r w' => r = .returned (.bool s.ok) ∧ Below w.heap.size w w' := by
  have HX : Hid (s.ok = (nameB s.name.data.toList && typesB s.args s.type)) := hide rfl
  obtain ⟨nm, args, ty⟩ := s
  obtain ⟨aa, ca, rfl, ⟨hs1, hs2⟩, ha⟩ := hS
  dsimp only at hs1 hs2 ha HX ⊢
  generalize TS.ok _ = R at HX ⊢
  have HQ := hide (fun X (hX : Below w.heap.size w X) => faceTypesOk_any lo aa ca args ty X (ha.kept hX hX.size) hs2)
  unfold maxLen at hs1 hs2
  clear ha
  go_enter Try.func21, Try.ntmps21
  go_wp2_with fail
  refine (LexNameI_any _ _).mono ?_
  rintro r w2 ⟨rfl, hb2⟩
  have hB2 : Below w.heap.size w w2 := ((Below.refl _ w).alloc (Nat.le_refl _) _).trans (hb2.mono (by simp))
  have n1 : Blk w2 w.heap.size [Value.string nm, Value.slice aa args.length ca, Value.int .i64 ty] := (Blk.new w [Value.string nm, Value.slice aa args.length ca, Value.int .i64 ty] 48).below hb2 (by simp)
  have p1 := n1.cellAt (i := 1) rfl
  have p2 := n1.cellAt (i := 2) rfl
  have HQ2 := hide (unhide HQ w2 hB2)
  have HB2 := hide hB2
  clear n1 hb2 hB2 HQ
  cases hn : nameB nm.data.toList with
  | false =>
    have HR : Hid (R = false) := hide (by rw [unhide HX, hn]; rfl)
    go_wp2
    go_ret
    exact ⟨ret_bool (unhide HR).symm, unhide HB2⟩
  | true =>
    have HR : Hid (R = typesB args ty) := hide (by rw [unhide HX, hn]; rfl)
    go_wp2_with fail
    refine (unhide HQ2).mono ?_
    rintro r w3 ⟨rfl, rfl⟩
    go_wp2
    go_ret
    exact ⟨ret_bool (unhide HR).symm, unhide HB2⟩
end Go.Proofs.Ytifcfjjlgehopaa
