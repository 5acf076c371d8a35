/- The walk of wlSame. Conditions: the slices can be read. -/
import Derived.Test.YtkegbdlbaanapaaWk
namespace Go.Proofs.Ytkegbdlbaanapaa
open Go.RowKit Go.PlainAid

set_option maxHeartbeats 1000000 in
theorem wlSame_any (a a2 : Option Addr) (cap cap2 : Nat) (ws vs : List ByteArray) (w : World) (h : Words w w.heap.size a ws) (h2 : Words w w.heap.size a2 vs) (hl : ws.length ≤ 1048576) (hl2 : vs.length ≤ 1048576) :
    Calls Try.prog 15 #[.slice a ws.length cap, .slice a2 vs.length cap2] w fun e w' => e = .returned (.bool (sameB ws vs)) ∧ Below w.heap.size w w' := by
  by_cases hne : ws.length = vs.length
  · have hq : ((ws.length : Int) != (vs.length : Int)) = false := by simp [hne]
    have HN := hide hne
    have HW := hide h
    have HV := hide h2
    clear hne h h2
    go_enter Try.func15, Try.ntmps15
    go_wp2
    go_loopw [5] (fun i wr => ∃ k n : Nat, k ≤ ws.length ∧ i = .int .i64 k ∧ wr = w.drewN n ∧ Hid (∀ j (hj : j < ws.length) (hj2 : j < vs.length), j < k → ws[j] = vs[j])) (fun i _ => ws.length - (intOf i).toNat)
    case atStart => exact ⟨0, 0, Nat.zero_le _, rfl, rfl, hide (fun j _ _ hj => absurd hj (Nat.not_lt_zero _))⟩
    case round =>
      obtain ⟨k, n, hk, rfl, rfl, HD⟩ := hrel
      by_cases hp : k < ws.length
      · have hp2 : k < vs.length := by have := unhide HN; omega
        rcases unhide HW with h | ⟨b, off, rfl, hb, hc⟩
        · rw [h] at hp; simp at hp
        rcases unhide HV with h | ⟨b2, off2, rfl, hb2, hc2⟩
        · rw [h] at hp2; simp at hp2
        have hck := hc k hp
        have hck2 := hc2 k hp2
        obtain ⟨x, hx⟩ : ∃ x, ws[k]'hp = x := ⟨_, rfl⟩
        obtain ⟨y, hy⟩ : ∃ y, vs[k]'hp2 = y := ⟨_, rfl⟩
        rw [hx] at hck
        rw [hy] at hck2
        have HX := hide hx
        have HY := hide hy
        clear hc hc2 hx hy
        cases he : (x.toList == y.toList) with
        | true =>
          have HXY : Hid (x = y) := hide (by
            have := beq_iff_eq.1 he
            rw [ByteArray.toList_eq, ByteArray.toList_eq] at this
            obtain ⟨⟨p⟩⟩ := x
            obtain ⟨⟨q⟩⟩ := y
            have e : p = q := this
            rw [e])
          go_wp2
          go_quiet (fail)
          go_wp2
          go_roundw
          case rel =>
            refine ⟨k + 1, _, by omega, by go_num, rfl, hide (fun j hj hj2 hjk => ?_)⟩
            by_cases e : j = k
            · subst e; rw [unhide HX, unhide HY]; exact unhide HXY
            · exact unhide HD j hj hj2 (by omega)
          case measure => simp [intOf]; omega
        | false =>
          have HXY : Hid (sameB ws vs = false) := hide (by
            unfold sameB
            rw [decide_eq_false_iff_not]
            intro e
            subst e
            have : x = y := by rw [← unhide HX, ← unhide HY]
            rw [this] at he
            simp at he)
          go_wp2
          go_quiet (fail)
          go_wp2
          go_ret
          exact ⟨ret_bool (unhide HXY).symm, below_drewN (below_drewN (Below.refl _ _) _) _⟩
      · have HXY : Hid (sameB ws vs = true) := hide (by
          unfold sameB
          rw [decide_eq_true_eq]
          exact List.ext_getElem (unhide HN) (fun j hj hj2 => unhide HD j hj hj2 (by omega)))
        go_wp2
        go_ret
        exact ⟨ret_bool (unhide HXY).symm, below_drewN (Below.refl _ _) _⟩
  · have hq : ((ws.length : Int) != (vs.length : Int)) = true := by simp; omega
    have HXY : Hid (sameB ws vs = false) := hide (by
      unfold sameB
      rw [decide_eq_false_iff_not]
      intro e
      exact hne (by rw [e]))
    clear h h2 hne
    go_enter Try.func15, Try.ntmps15
    go_wp2
    go_ret
    exact ⟨ret_bool (unhide HXY).symm, Below.refl _ _⟩
end Go.Proofs.Ytkegbdlbaanapaa
