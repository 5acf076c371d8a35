/- The walk of spec.TreeSame. Conditions: the modules can be read. -/
import Derived.Test.YtambkcchnmbaoaaRc
namespace Go.Proofs.Ytambkcchnmbaoaa
open Go.RowKit Go.PlainAid

set_option maxRecDepth 100000 in
set_option maxHeartbeats 8000000 in
theorem TreeSameS_any (lo lo' h h' : Nat) (v v' : Value) (m m' : TM) (w : World) (hM : IsMod w lo w.heap.size h v m) (hM' : IsMod w lo' w.heap.size h' v' m') :
    Calls Try.prog 22 #[v, v'] w fun r w' => r = .returned (.bool (m.same m')) ∧ Below w.heap.size w w' := by
  have HX : Hid (m.same m' = (wdsB m.uses m'.uses && (funsB m.funs m'.funs && sameL m.main m'.main))) := hide rfl
  obtain ⟨us, fs, mn⟩ := m
  obtain ⟨us', fs', mn'⟩ := m'
  obtain ⟨a1, a2, a3, k1, k2, k3, rfl, ⟨z1, z2, z3, _, _⟩, q1, q2, q3⟩ := hM
  obtain ⟨a1', a2', a3', k1', k2', k3', rfl, ⟨z1', z2', z3', _, _⟩, q1', q2', q3'⟩ := hM'
  dsimp only at z1 z2 z3 z1' z2' z3' q1 q2 q3 q1' q2' q3' HX ⊢
  generalize TM.same _ _ = R at HX ⊢
  have HU := hide (fun (W : World) (hb : Below w.heap.size w W) => l2Strings_any lo lo' a1 a1' k1 k1' us us' W (q1.kept hb hb.size) (q1'.kept hb hb.size) z1 z1')
  have HQ2 := hide q2
  have HQ2' := hide q2'
  have HQ3 := hide q3
  have HQ3' := hide q3'
  unfold maxLen at z1 z2 z3 z1' z2' z3'
  clear q1 q2 q3 q1' q2' q3'
  go_enter Try.func22, Try.ntmps22
  go_wp2_with fail
  refine (unhide HU _ (((Below.refl _ w).alloc (Nat.le_refl _) _).alloc (by simp) _)).mono ?_
  rintro r w2 ⟨rfl, hb2⟩
  have hB2 := ((((Below.refl w.heap.size w).alloc (Nat.le_refl _) _).alloc (by simp) _).trans (hb2.mono (by simp; omega)))
  have n1 : Blk w2 w.heap.size [Value.slice a1 us.length k1, .slice a2 fs.length k2, .slice a3 mn.length k3] := ((Blk.new w [Value.slice a1 us.length k1, .slice a2 fs.length k2, .slice a3 mn.length k3] 46).old _ (by simp)).below hb2 (by simp; omega)
  have n2 : Blk w2 (w.heap.size + 1) [Value.slice a1' us'.length k1', .slice a2' fs'.length k2', .slice a3' mn'.length k3'] := by
    have := (Blk.new (w.alloc (.cells #[Value.slice a1 us.length k1, .slice a2 fs.length k2, .slice a3 mn.length k3] 46)) [Value.slice a1' us'.length k1', .slice a2' fs'.length k2', .slice a3' mn'.length k3'] 46).below hb2 (by simp)
    rw [alloc_size] at this
    exact this
  have hz2 : w.heap.size + 1 < w2.heap.size := by have := hb2.size; rw [alloc_size, alloc_size] at this; omega
  have p1 := n1.cellAt (i := 1) rfl
  have p2 := n1.cellAt (i := 2) rfl
  have r1 := n2.cellAt (i := 1) rfl
  have r2 := n2.cellAt (i := 2) rfl
  have HB2 := hide hB2
  have HZ2 := hide hz2
  clear hb2 hB2 n1 n2 hz2 HU
  cases hu : wdsB us us' with
  | false =>
    have HR : Hid (R = false) := hide (by rw [unhide HX, hu]; rfl)
    go_wp2
    go_ret
    exact ⟨ret_bool (unhide HR).symm, unhide HB2⟩
  | true =>
  have HX1 : Hid (R = (funsB fs fs' && sameL mn mn')) := hide (by rw [unhide HX, hu]; rfl)
  clear HX hu
  cases t1 : ((fs.length : Int) != (fs'.length : Int)) with
  | true =>
    have HR : Hid (R = false) := hide (by rw [unhide HX1, funsB_ne (fun e => by rw [e] at t1; simp at t1)]; rfl)
    go_wp2
    go_ret
    exact ⟨ret_bool (unhide HR).symm, unhide HB2⟩
  | false =>
  cases t2 : ((mn.length : Int) != (mn'.length : Int)) with
  | true =>
    have HR : Hid (R = false) := hide (by rw [unhide HX1, sameL_ne (fun e => by rw [e] at t2; simp at t2)]; simp)
    go_wp2
    go_ret
    exact ⟨ret_bool (unhide HR).symm, unhide HB2⟩
  | false =>
  have HL1 : Hid (fs.length = fs'.length) := hide (by have := ne_yes t1; simp at this; omega)
  have HL2 : Hid (mn.length = mn'.length) := hide (by have := ne_yes t2; simp at this; omega)
  go_wp2
  clear t1 t2
  go_loopw [5] (fun i wr => ∃ j : Nat, j ≤ fs.length ∧ i = .int .i64 j ∧ Hid (R = (funsB (fs.drop j) (fs'.drop j) && sameL mn mn')) ∧ wr.cell? ⟨w.heap.size, 1, none⟩ = some (.slice a2 fs.length k2) ∧ wr.cell? ⟨w.heap.size + 1, 1, none⟩ = some (.slice a2' fs'.length k2') ∧ wr.cell? ⟨w.heap.size, 2, none⟩ = some (.slice a3 mn.length k3) ∧ wr.cell? ⟨w.heap.size + 1, 2, none⟩ = some (.slice a3' mn'.length k3') ∧ Hid (w.heap.size + 1 < wr.heap.size) ∧ Hid (Below w.heap.size w wr)) (fun i _ => fs.length - (intOf i).toNat)
  case atStart => exact ⟨0, Nat.zero_le _, rfl, HX1, p1, r1, p2, r2, HZ2, HB2⟩
  case round =>
    clear HX1 p1 p2 r1 r2 HZ2 HB2
    obtain ⟨j, hj, rfl, HX2, s1, s2, s3, s4, HZ, HB⟩ := hrel
    by_cases hp : j < fs.length
    · have hp' : j < fs'.length := by have := unhide HL1; omega
      have hat := funsB_at fs fs' j hp hp'
      rcases (unhide HQ2).kept (unhide HB) (unhide HB).size with hq | ⟨b, off, rfl, hbl, hbn, hcs⟩
      · rw [hq] at hp; simp at hp
      rcases (unhide HQ2').kept (unhide HB) (unhide HB).size with hq | ⟨b', off', rfl, hbl', hbn', hcs'⟩
      · rw [hq] at hp'; simp at hp'
      obtain ⟨c0, c1, c2, c3, c4, c5, c6, c7, c8, d0, d1, d2, d3, d4, d5, d6, d7, d8, hr⟩ := hcs j hp
      obtain ⟨c0', c1', c2', c3', c4', c5', c6', c7', c8', d0', d1', d2', d3', d4', d5', d6', d7', d8', hr'⟩ := hcs' j hp'
      generalize fs[j] = x at hr hat
      generalize fs'[j] = x' at hr' hat
      have HAT := hide hat
      have HQ := hide (fun (W : World) (hb : Below wr.heap.size wr W) => l2SameFun_any lo lo' h h' _ _ x x' W (IsFun.same h (Below.same hb) (Nat.le_refl _) hb.size _ _ hr) (IsFun.same h' (Below.same hb) (Nat.le_refl _) hb.size _ _ hr'))
      clear hcs hcs' hr hr' hat
      obtain ⟨B, hB⟩ : ∃ B, x.same x' = B := ⟨_, rfl⟩
      simp only [hB] at HQ
      rw [hB] at HAT
      clear hB
      cases B with
      | true =>
        have HX3 : Hid (R = (funsB (fs.drop (j + 1)) (fs'.drop (j + 1)) && sameL mn mn')) := hide (by rw [unhide HX2, unhide HAT]; rfl)
        go_wp2
        go_region_with (go_at_call 43; refine (unhide HQ _ (Below.refl _ _).drew).mono ?_; rintro r w3 ⟨rfl, hb2⟩)
        all_goals
          have hb3 : Below wr.heap.size wr w3 := (Below.refl _ wr).drew.trans hb2
          have hz := unhide HZ
          have u1 := (hb3.cell (p := ⟨w.heap.size, 1, none⟩) (by show w.heap.size < _; omega)).trans s1
          have u2 := (hb3.cell (p := ⟨w.heap.size + 1, 1, none⟩) (by exact hz)).trans s2
          have u3 := (hb3.cell (p := ⟨w.heap.size, 2, none⟩) (by show w.heap.size < _; omega)).trans s3
          have u4 := (hb3.cell (p := ⟨w.heap.size + 1, 2, none⟩) (by exact hz)).trans s4
          have HB3 := hide ((unhide HB).trans (hb3.mono (unhide HB).size))
          have HZ3 : Hid (w.heap.size + 1 < w3.heap.size) := hide (by have := hb3.size; omega)
          clear s1 s2 s3 s4 hb2 hb3 hz
          go_wp2
          go_roundw
          case rel => exact ⟨j + 1, by omega, by go_num, HX3, u1, u2, u3, u4, HZ3, HB3⟩
          case measure => simp [intOf]; omega
      | false =>
        have HR : Hid (R = false) := hide (by rw [unhide HX2, unhide HAT]; rfl)
        go_wp2
        go_region_with (go_at_call 43; refine (unhide HQ _ (Below.refl _ _).drew).mono ?_; rintro r w3 ⟨rfl, hb2⟩)
        all_goals
          have HB3 := hide ((unhide HB).trans (((Below.refl _ wr).drew.trans hb2).mono (unhide HB).size))
          clear hb2
          go_wp2
          go_ret
          exact ⟨ret_bool (unhide HR).symm, unhide HB3⟩
    · have HX3 : Hid (R = sameL mn mn') := hide (by
        rw [unhide HX2, List.drop_of_length_le (by omega), List.drop_of_length_le (by have := unhide HL1; omega), funsB]; rfl)
      clear HX2 HQ2 HQ2'
      go_wp2
      go_loopw [6] (fun i wr => ∃ j : Nat, j ≤ mn.length ∧ i = .int .i64 j ∧ Hid (R = sameL (mn.drop j) (mn'.drop j)) ∧ wr.cell? ⟨w.heap.size, 2, none⟩ = some (.slice a3 mn.length k3) ∧ wr.cell? ⟨w.heap.size + 1, 2, none⟩ = some (.slice a3' mn'.length k3') ∧ Hid (w.heap.size + 1 < wr.heap.size) ∧ Hid (Below w.heap.size w wr)) (fun i _ => mn.length - (intOf i).toNat)
      case atStart => exact ⟨0, Nat.zero_le _, rfl, HX3, s3, s4, HZ, HB⟩
      case round =>
        clear HX3 s1 s2 s3 s4 HZ HB hp hj
        obtain ⟨j, hj, rfl, HX2, s3, s4, HZ, HB⟩ := hrel
        by_cases hp : j < mn.length
        · have hp' : j < mn'.length := by have := unhide HL2; omega
          have hat := sameL_at mn mn' j hp hp'
          rcases (unhide HQ3).kept (unhide HB) (unhide HB).size with hq | ⟨b, off, rfl, hbl, hbn, hcs⟩
          · rw [hq] at hp; simp at hp
          rcases (unhide HQ3').kept (unhide HB) (unhide HB).size with hq | ⟨b', off', rfl, hbl', hbn', hcs'⟩
          · rw [hq] at hp'; simp at hp'
          obtain ⟨c0, c1, c2, c3, c4, d0, d1, d2, d3, d4, hr⟩ := hcs j hp
          obtain ⟨c0', c1', c2', c3', c4', d0', d1', d2', d3', d4', hr'⟩ := hcs' j hp'
          generalize mn[j] = x at hr hat
          generalize mn'[j] = x' at hr' hat
          have HAT := hide ((unhide HX2).trans hat)
          have HQ := hide (fun (W : World) (hb : Below wr.heap.size wr W) => l2SameExpr_any lo lo' h _ _ x x' W h' (IsE.kept hb hb.size h _ _ hr) (IsE.kept hb hb.size h' _ _ hr'))
          clear hcs hcs' hr hr' hat
          obtain ⟨B, hB⟩ : ∃ B, x.same x' = B := ⟨_, rfl⟩
          simp only [hB] at HQ
          rw [hB] at HAT
          clear hB
          cases B with
          | true =>
            go_wp2
            go_region_with (go_at_call 44; refine (unhide HQ _ (Below.refl _ _).drew).mono ?_; rintro r w3 ⟨rfl, hb2⟩)
            all_goals
              have hb3 : Below wr.heap.size wr w3 := (Below.refl _ wr).drew.trans hb2
              have hz := unhide HZ
              have u3 := (hb3.cell (p := ⟨w.heap.size, 2, none⟩) (by show w.heap.size < _; omega)).trans s3
              have u4 := (hb3.cell (p := ⟨w.heap.size + 1, 2, none⟩) (by exact hz)).trans s4
              have HB3 := hide ((unhide HB).trans (hb3.mono (unhide HB).size))
              have HZ3 : Hid (w.heap.size + 1 < w3.heap.size) := hide (by have := hb3.size; omega)
              clear s3 s4 hb2 hb3 hz
              go_wp2
              go_roundw
              case rel => exact ⟨j + 1, by omega, by go_num, HAT, u3, u4, HZ3, HB3⟩
              case measure => simp [intOf]; omega
          | false =>
            go_wp2
            go_region_with (go_at_call 44; refine (unhide HQ _ (Below.refl _ _).drew).mono ?_; rintro r w3 ⟨rfl, hb2⟩)
            all_goals
              have HB3 := hide ((unhide HB).trans (((Below.refl _ wr).drew.trans hb2).mono (unhide HB).size))
              clear hb2
              go_wp2
              go_ret
              exact ⟨ret_bool (unhide HAT).symm, unhide HB3⟩
        · have HR : Hid (R = true) := hide (by
            rw [unhide HX2, List.drop_of_length_le (by omega), List.drop_of_length_le (by have := unhide HL2; omega), sameL])
          go_wp2
          go_ret
          exact ⟨ret_bool (unhide HR).symm, unhide HB⟩
end Go.Proofs.Ytambkcchnmbaoaa
