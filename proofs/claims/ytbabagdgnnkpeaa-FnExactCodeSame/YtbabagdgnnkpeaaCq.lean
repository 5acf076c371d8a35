/- The walk of spec.CodeSame. Conditions: the objects can be read. -/
import Derived.Test.YtbabagdgnnkpeaaCk
namespace Go.Proofs.Ytbabagdgnnkpeaa
open Go.RowKit Go.PlainAid

set_option maxRecDepth 100000 in
set_option maxHeartbeats 4000000 in
theorem CodeSameS_any (lo lo2 : Nat) (v v' : Value) (a b : TO) (w : World) (hA : IsObj w lo w.heap.size v a) (hB : IsObj w lo2 w.heap.size v' b) :
    Calls Try.prog 5 #[v, v'] w fun r w' => r = .returned (.bool (objB a b)) ∧ Below w.heap.size w w' := by
  obtain ⟨refs, funs⟩ := a
  obtain ⟨refs', funs'⟩ := b
  obtain ⟨aa, ca, ba, cb, rfl, ⟨hs1, hs2⟩, ha, hb⟩ := hA
  obtain ⟨aa', ca', ba', cb', rfl, ⟨hs1', hs2'⟩, ha', hb'⟩ := hB
  dsimp only at hs1 hs2 ha hb hs1' hs2' ha' hb' ⊢
  unfold maxLen at hs1 hs2 hs1' hs2'
  obtain ⟨W, hW⟩ : ∃ W, W = (w.alloc (.cells #[.slice aa refs.length ca, .slice ba funs.length cb] 31)).alloc (.cells #[.slice aa' refs'.length ca', .slice ba' funs'.length cb'] 31) := ⟨_, rfl⟩
  have hBW : Below w.heap.size w W := by rw [hW]; exact ((Below.refl _ _).alloc (Nat.le_refl _) _).alloc (by simp) _
  have hb1 : Blk W w.heap.size [.slice aa refs.length ca, .slice ba funs.length cb] := by rw [hW]; exact (Blk.new w [.slice aa refs.length ca, .slice ba funs.length cb] 31).old _ (by simp)
  have hb2 : Blk W (w.heap.size + 1) [.slice aa' refs'.length ca', .slice ba' funs'.length cb'] := by
    have := Blk.new (w.alloc (.cells #[.slice aa refs.length ca, .slice ba funs.length cb] 31)) [.slice aa' refs'.length ca', .slice ba' funs'.length cb'] 31
    rw [alloc_size] at this
    rw [hW]; exact this
  have hsz : W.heap.size = w.heap.size + 2 := by rw [hW]; simp
  have hlt := hide (show w.heap.size < W.heap.size ∧ w.heap.size + 1 < W.heap.size by omega)
  have HBW := hide hBW
  have HA := hide (ha.kept hBW hBW.size)
  have HA' := hide (ha'.kept hBW hBW.size)
  have HF := hide (hb.kept hBW hBW.size)
  have HF' := hide (hb'.kept hBW hBW.size)
  have HB1 := hide hb1
  have HB2 := hide hb2
  obtain ⟨R, hR⟩ : ∃ R, objB ⟨refs, funs⟩ ⟨refs', funs'⟩ = R := ⟨_, rfl⟩
  rw [hR]
  unfold objB at hR
  dsimp only at hR
  have HRR := hide hR
  clear ha hb ha' hb' hBW hb1 hb2 hsz hR
  by_cases t0 : refs.length = refs'.length
  case neg =>
    have HR : Hid (R = false) := hide (by rw [← unhide HRR, allE_len t0]; rfl)
    have q0 : ((refs.length : Int) != (refs'.length : Int)) = true := by simp; omega
    have q1 : ¬ (refs.length : Int) = (refs'.length : Int) := by omega
    clear t0
    go_enter Try.func5, Try.ntmps5
    go_wp2
    go_ret
    exact ⟨ret_bool (unhide HR).symm, by rw [← hW]; exact unhide HBW⟩
  have q0 : ((refs.length : Int) != (refs'.length : Int)) = false := by simp [t0]
  have HL1 := hide t0
  by_cases t1 : funs.length = funs'.length
  case neg =>
    have HR : Hid (R = false) := hide (by rw [← unhide HRR, allE_len t1, Bool.and_false])
    have q2 : ((funs.length : Int) != (funs'.length : Int)) = true := by simp; omega
    have q1 : ¬ (funs.length : Int) = (funs'.length : Int) := by omega
    clear t1 t0
    go_enter Try.func5, Try.ntmps5
    go_wp2
    go_ret
    exact ⟨ret_bool (unhide HR).symm, by rw [← hW]; exact unhide HBW⟩
  have q2 : ((funs.length : Int) != (funs'.length : Int)) = false := by simp [t1]
  have HL2 := hide t1
  clear t0 t1
  have HE1 : Hid (∀ k (h1 : k < refs.length) (h2 : k < refs'.length), crB refs[k] refs'[k] = false → R = false) := hide (fun k h1 h2 h => by
    rw [← unhide HRR, allE_no h1 h2 h]; rfl)
  have HE2 : Hid (∀ k (h1 : k < funs.length) (h2 : k < funs'.length), cfB funs[k] funs'[k] = false → R = false) := hide (fun k h1 h2 h => by
    rw [← unhide HRR, allE_no h1 h2 h, Bool.and_false])
  have HE3 : Hid ((∀ k (h1 : k < refs.length) (h2 : k < refs'.length), crB refs[k] refs'[k] = true) → (∀ k (h1 : k < funs.length) (h2 : k < funs'.length), cfB funs[k] funs'[k] = true) → R = true) := hide (fun h h' => by
    rw [← unhide HRR, allE_yes (unhide HL1) h, allE_yes (unhide HL2) h']; rfl)
  have heq := equalCrs_op
  have hg : Try.prog.eqGuardType Try.prog.depth 37 = false := by kernel_rfl
  go_enter Try.func5, Try.ntmps5
  go_wp2
  rw [← hW]
  clear hW HRR
  go_loopw [5] (fun i wr => ∃ k n : Nat, k ≤ refs.length ∧ i = .int .i64 k ∧ wr = W.drewN n ∧ Hid (∀ j (h1 : j < refs.length) (h2 : j < refs'.length), j < k → crB refs[j] refs'[j] = true)) (fun i _ => refs.length - (intOf i).toNat)
  case atStart => exact ⟨0, 0, Nat.zero_le _, rfl, rfl, hide (fun j _ _ hj => absurd hj (Nat.not_lt_zero _))⟩
  case round =>
    obtain ⟨k, n, hk, rfl, rfl, HN⟩ := hrel
    have x0 : W.cell? ⟨w.heap.size, 0, none⟩ = some (.slice aa refs.length ca) := (unhide HB1).1 0
    have y0 : W.cell? ⟨w.heap.size + 1, 0, none⟩ = some (.slice aa' refs'.length ca') := (unhide HB2).1 0
    have x1 : W.cell? ⟨w.heap.size, 1, none⟩ = some (.slice ba funs.length cb) := (unhide HB1).1 1
    have y1 : W.cell? ⟨w.heap.size + 1, 1, none⟩ = some (.slice ba' funs'.length cb') := (unhide HB2).1 1
    by_cases hp : k < refs.length
    · have hp2 : k < refs'.length := by have := unhide HL1; omega
      rcases unhide HA with h | ⟨b, off, rfl, hbl, hbn, hc⟩
      · rw [h] at hp; simp at hp
      rcases unhide HA' with h | ⟨b2, off2, rfl, hbl2, hbn2, hc2⟩
      · rw [h] at hp2; simp at hp2
      obtain ⟨c0, c1, d0, d1, hr⟩ := hc k hp
      obtain ⟨e0, e1, z0, z1, hr2⟩ := hc2 k hp2
      have HNO := hide (unhide HE1 k hp hp2)
      have HYES := hide (fun (h : crB (refs[k]'hp) (refs'[k]'hp2) = true) (j : Nat) (h1 : j < refs.length) (h2 : j < refs'.length) (hj : j < k + 1) => show crB refs[j] refs'[j] = true from by
        by_cases e : j = k
        · subst e; exact h
        · exact unhide HN j h1 h2 (by omega))
      obtain ⟨s, hx⟩ : ∃ x, refs[k]'hp = x := ⟨_, rfl⟩
      obtain ⟨t, hy⟩ : ∃ y, refs'[k]'hp2 = y := ⟨_, rfl⟩
      rw [hx] at hr HNO HYES
      rw [hy] at hr2 HNO HYES
      have hr : (Value.agg #[c0, c1]) = .agg #[.string s.mod, .string s.name] := hr.1
      have hr2 : (Value.agg #[e0, e1]) = .agg #[.string t.mod, .string t.name] := hr2.1
      simp only [Value.agg.injEq, Array.mk.injEq, List.cons.injEq, and_true] at hr hr2
      obtain ⟨rfl, rfl⟩ := hr
      obtain ⟨rfl, rfl⟩ := hr2
      obtain ⟨B, hB⟩ : ∃ B, crB s t = B := ⟨_, rfl⟩
      rw [hB] at HNO HYES
      clear hc hc2 hx hy x1 y1
      cases B with
      | true =>
        have HY := hide (unhide HYES rfl)
        clear HNO
        go_wp2
        go_quiet (fail)
        clear hB
        go_wp2
        go_roundw
        case rel => exact ⟨k + 1, _, by omega, by go_num, by first | rfl | exact drewN_drewN _ _ _, HY⟩
        case measure => simp [intOf]; omega
      | false =>
        have HE := hide (unhide HNO rfl)
        go_wp2
        go_quiet (fail)
        clear hB
        go_wp2
        go_ret
        exact ⟨ret_bool (unhide HE).symm, below_drewN (below_drewN (unhide HBW) _) _⟩
    · have HN1 : Hid (∀ k (h1 : k < refs.length) (h2 : k < refs'.length), crB refs[k] refs'[k] = true) := hide (fun j h1 h2 => unhide HN j h1 h2 (by omega))
      clear HN
      go_wp2
      clear x0 y0 x1 y1 heq hg
      go_loopw [6] (fun i wr => ∃ k : Nat, k ≤ funs.length ∧ i = .int .i64 k ∧ Hid (Below W.heap.size W wr) ∧ Hid (∀ j (h1 : j < funs.length) (h2 : j < funs'.length), j < k → cfB funs[j] funs'[j] = true)) (fun i _ => funs.length - (intOf i).toNat)
      case atStart => exact ⟨0, Nat.zero_le _, rfl, hide (below_drewN (Below.refl _ _) _), hide (fun j _ _ hj => absurd hj (Nat.not_lt_zero _))⟩
      case round =>
        obtain ⟨k, hk, rfl, HB, HN⟩ := hrel
        have x1 : wr.cell? ⟨w.heap.size, 1, none⟩ = some (.slice ba funs.length cb) := ((unhide HB).cell (p := ⟨w.heap.size, 1, none⟩) (unhide hlt).1).trans ((unhide HB1).1 1)
        have y1 : wr.cell? ⟨w.heap.size + 1, 1, none⟩ = some (.slice ba' funs'.length cb') := ((unhide HB).cell (p := ⟨w.heap.size + 1, 1, none⟩) (unhide hlt).2).trans ((unhide HB2).1 1)
        by_cases hp : k < funs.length
        · have hp2 : k < funs'.length := by have := unhide HL2; omega
          rcases (unhide HF).kept (unhide HB) (unhide HB).size with h | ⟨b, off, rfl, hbl, hbn, hc⟩
          · rw [h] at hp; simp at hp
          rcases (unhide HF').kept (unhide HB) (unhide HB).size with h | ⟨b2, off2, rfl, hbl2, hbn2, hc2⟩
          · rw [h] at hp2; simp at hp2
          obtain ⟨c0, c1, c2, c3, c4, c5, d0, d1, d2, d3, d4, d5, hr⟩ := hc k hp
          obtain ⟨e0, e1, e2, e3, e4, e5, z0, z1, z2, z3, z4, z5, hr2⟩ := hc2 k hp2
          have HNO := hide (unhide HE2 k hp hp2)
          have HYES := hide (fun (h : cfB (funs[k]'hp) (funs'[k]'hp2) = true) (j : Nat) (h1 : j < funs.length) (h2 : j < funs'.length) (hj : j < k + 1) => show cfB funs[j] funs'[j] = true from by
            by_cases e : j = k
            · subst e; exact h
            · exact unhide HN j h1 h2 (by omega))
          obtain ⟨s, hx⟩ : ∃ x, funs[k]'hp = x := ⟨_, rfl⟩
          obtain ⟨t, hy⟩ : ∃ y, funs'[k]'hp2 = y := ⟨_, rfl⟩
          rw [hx] at hr HNO HYES
          rw [hy] at hr2 HNO HYES
          have HQ := hide (fun (X : World) (hb : Below wr.heap.size wr X) => l7SameFun_any lo lo2 _ _ s t X (IsCf.same (Below.same hb) (Nat.le_refl _) hb.size _ _ hr) (IsCf.same (Below.same hb) (Nat.le_refl _) hb.size _ _ hr2))
          obtain ⟨B, hB⟩ : ∃ B, cfB s t = B := ⟨_, rfl⟩
          rw [hB] at HNO HYES HQ
          clear hc hc2 hx hy hr hr2 hB
          cases B with
          | true =>
            have HY := hide (unhide HYES rfl)
            clear HNO
            go_wp2
            go_region_with (go_at_call 11; refine (unhide HQ _ (Below.refl _ _).drew).mono ?_; rintro r w2 ⟨rfl, hb2⟩)
            all_goals
              have HB3 := hide ((unhide HB).drew.trans (hb2.mono (unhide HB).drew.size))
              clear hb2 d0 d1 d2 d3 d4 d5 z0 z1 z2 z3 z4 z5 x1 y1
              go_wp2
              go_roundw
              case rel => exact ⟨k + 1, by omega, by go_num, HB3, HY⟩
              case measure => simp [intOf]; omega
          | false =>
            have HE := hide (unhide HNO rfl)
            go_wp2
            go_region_with (go_at_call 11; refine (unhide HQ _ (Below.refl _ _).drew).mono ?_; rintro r w2 ⟨rfl, hb2⟩)
            all_goals
              have HB3 := hide ((unhide HB).drew.trans (hb2.mono (unhide HB).drew.size))
              clear hb2 d0 d1 d2 d3 d4 d5 z0 z1 z2 z3 z4 z5 x1 y1
              go_wp2
              go_ret
              exact ⟨ret_bool (unhide HE).symm, (unhide HBW).trans ((unhide HB3).mono (unhide HBW).size)⟩
        · have HE := hide (unhide HE3 (unhide HN1) (fun j h1 h2 => unhide HN j h1 h2 (by omega)))
          go_wp2
          go_ret
          exact ⟨ret_bool (unhide HE).symm, (unhide HBW).trans ((unhide HB).mono (unhide HBW).size)⟩
end Go.Proofs.Ytbabagdgnnkpeaa
