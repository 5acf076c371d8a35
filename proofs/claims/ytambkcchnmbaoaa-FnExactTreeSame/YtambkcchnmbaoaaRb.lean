/- The walks of l2Strings and slices.Equal. Conditions: the rows can be read. -/
import Derived.Test.YtambkcchnmbaoaaUe
import Derived.Deep.QuietTactic
import Derived.BigQuiet
namespace Go.Proofs.Ytambkcchnmbaoaa
open Go.RowKit Go.PlainAid

def wdsB : List ByteArray → List ByteArray → Bool
  | [], [] => true
  | x :: t, y :: r => (x.toList == y.toList) && wdsB t r
  | [], _ :: _ => false
  | _ :: _, [] => false
theorem wdsB_len : ∀ l r : List ByteArray, wdsB l r = true → l.length = r.length
  | [], [], _ => rfl
  | e :: t, e' :: t', h => by
    rw [wdsB, Bool.and_eq_true] at h
    rw [List.length_cons, List.length_cons, wdsB_len t t' h.2]
  | [], _ :: _, h => by simp [wdsB] at h
  | _ :: _, [], h => by simp [wdsB] at h
theorem wdsB_ne {l r : List ByteArray} (h : l.length ≠ r.length) : wdsB l r = false := by
  cases hs : wdsB l r with
  | false => rfl
  | true => exact absurd (wdsB_len l r hs) h
theorem wdsB_at (l r : List ByteArray) (k : Nat) (h : k < l.length) (h' : k < r.length) : wdsB (l.drop k) (r.drop k) = ((l[k].toList == r[k].toList) && wdsB (l.drop (k + 1)) (r.drop (k + 1))) := by
  rw [List.drop_eq_getElem_cons h, List.drop_eq_getElem_cons h', wdsB]
def argsB : List TA → List TA → Bool
  | [], [] => true
  | x :: t, y :: r => ((x.name.toList == y.name.toList) && (x.type == y.type)) && argsB t r
  | [], _ :: _ => false
  | _ :: _, [] => false
theorem argsB_len : ∀ l r : List TA, argsB l r = true → l.length = r.length
  | [], [], _ => rfl
  | e :: t, e' :: t', h => by
    rw [argsB, Bool.and_eq_true] at h
    rw [List.length_cons, List.length_cons, argsB_len t t' h.2]
  | [], _ :: _, h => by simp [argsB] at h
  | _ :: _, [], h => by simp [argsB] at h
theorem argsB_ne {l r : List TA} (h : l.length ≠ r.length) : argsB l r = false := by
  cases hs : argsB l r with
  | false => rfl
  | true => exact absurd (argsB_len l r hs) h
theorem argsB_at (l r : List TA) (k : Nat) (h : k < l.length) (h' : k < r.length) : argsB (l.drop k) (r.drop k) = (((l[k].name.toList == r[k].name.toList) && (l[k].type == r[k].type)) && argsB (l.drop (k + 1)) (r.drop (k + 1))) := by
  rw [List.drop_eq_getElem_cons h, List.drop_eq_getElem_cons h', argsB]

set_option maxHeartbeats 1000000 in
theorem l2Strings_any (lo lo' : Nat) (a a' : Option Addr) (cap cap' : Nat) (ws vs : List ByteArray) (w : World) (h : IsWds w lo w.heap.size a ws) (h' : IsWds w lo' w.heap.size a' vs) (hl : ws.length ≤ maxLen) (_hl' : vs.length ≤ maxLen) :
    Calls Try.prog 42 #[.slice a ws.length cap, .slice a' vs.length cap'] w fun r w' => r = .returned (.bool (wdsB ws vs)) ∧ Below w.heap.size w w' := by
  unfold maxLen at hl
  have HW := hide h
  have HV := hide h'
  clear h h'
  obtain ⟨R, hR⟩ : ∃ R, wdsB ws vs = R := ⟨_, rfl⟩
  rw [hR]
  have HX := hide hR.symm
  clear hR
  cases t5 : ((ws.length : Int) != (vs.length : Int)) with
  | true =>
    have HR : Hid (R = false) := hide (by
      rw [unhide HX]
      refine wdsB_ne (fun e => ?_)
      rw [e] at t5; simp at t5)
    go_enter Try.func42, Try.ntmps42
    go_wp2
    go_ret
    exact ⟨ret_bool (unhide HR).symm, Below.refl _ _⟩
  | false =>
  have HLEN : Hid (ws.length = vs.length) := hide (by have : ((ws.length : Int) == (vs.length : Int)) = true := (by simpa [bne] using t5); simp at this; omega)
  go_enter Try.func42, Try.ntmps42
  go_wp2
  clear t5
  go_loopw [5] (fun i wr => ∃ k n : Nat, k ≤ ws.length ∧ i = .int .i64 k ∧ wr = w.drewN n ∧ Hid (R = wdsB (ws.drop k) (vs.drop k))) (fun i _ => ws.length - (intOf i).toNat)
  case atStart => exact ⟨0, 0, Nat.zero_le _, rfl, rfl, HX⟩
  case round =>
    clear HX
    obtain ⟨k, n, hk, rfl, rfl, HX⟩ := hrel
    by_cases hp : k < ws.length
    · have hp2 : k < vs.length := by have := unhide HLEN; omega
      have hat := wdsB_at ws vs k hp hp2
      rcases unhide HW with h | ⟨b, off, rfl, hbl, hb, hc⟩
      · rw [h] at hp; simp at hp
      rcases unhide HV with h | ⟨b2, off2, rfl, hbl2, hb2, hc2⟩
      · rw [h] at hp2; simp at hp2
      have hck := hc k hp
      have hck2 := hc2 k hp2
      obtain ⟨x, hx⟩ : ∃ x, ws[k]'hp = x := ⟨_, rfl⟩
      obtain ⟨y, hy⟩ : ∃ y, vs[k]'hp2 = y := ⟨_, rfl⟩
      rw [hx] at hck hat
      rw [hy] at hck2 hat
      have HAT := hide ((unhide HX).trans hat)
      clear hc hc2 hx hy hat
      cases he : (x.toList == y.toList) with
      | true =>
        have HX2 : Hid (R = wdsB (ws.drop (k + 1)) (vs.drop (k + 1))) := hide (by rw [unhide HAT, he]; rfl)
        go_wp2
        go_quiet (fail)
        go_wp2
        go_roundw
        case rel => exact ⟨k + 1, _, by omega, by go_num, rfl, HX2⟩
        case measure => simp [intOf]; omega
      | false =>
        have HR : Hid (R = false) := hide (by rw [unhide HAT, he]; rfl)
        go_wp2
        go_quiet (fail)
        go_wp2
        go_ret
        exact ⟨ret_bool (unhide HR).symm, below_drewN (below_drewN (Below.refl _ _) _) _⟩
    · have HR : Hid (R = true) := hide (by rw [unhide HX, List.drop_of_length_le (by omega), List.drop_of_length_le (by have := unhide HLEN; omega), wdsB])
      go_wp2
      go_ret
      exact ⟨ret_bool (unhide HR).symm, below_drewN (Below.refl _ _) _⟩

set_option maxHeartbeats 1000000 in
theorem equalWds_any (lo lo' : Nat) (a a' : Option Addr) (cap cap' : Nat) (ws vs : List ByteArray) (w : World) (h : IsWds w lo w.heap.size a ws) (h' : IsWds w lo' w.heap.size a' vs) (hl : ws.length ≤ maxLen) (_hl' : vs.length ≤ maxLen) :
    Calls Try.prog 45 #[.slice a ws.length cap, .slice a' vs.length cap'] w fun r w' => r = .returned (.bool (wdsB ws vs)) ∧ Below w.heap.size w w' := by
  unfold maxLen at hl
  have HW := hide h
  have HV := hide h'
  clear h h'
  obtain ⟨R, hR⟩ : ∃ R, wdsB ws vs = R := ⟨_, rfl⟩
  rw [hR]
  have HX := hide hR.symm
  clear hR
  cases t5 : ((ws.length : Int) != (vs.length : Int)) with
  | true =>
    have HR : Hid (R = false) := hide (by
      rw [unhide HX]
      refine wdsB_ne (fun e => ?_)
      rw [e] at t5; simp at t5)
    go_enter Try.func45, Try.ntmps45
    go_wp2
    go_ret
    exact ⟨ret_bool (unhide HR).symm, Below.refl _ _⟩
  | false =>
  have HLEN : Hid (ws.length = vs.length) := hide (by have : ((ws.length : Int) == (vs.length : Int)) = true := (by simpa [bne] using t5); simp at this; omega)
  go_enter Try.func45, Try.ntmps45
  go_wp2
  clear t5
  go_loopw [13] (fun i wr => ∃ k n : Nat, k ≤ ws.length ∧ i = .int .i64 k ∧ wr = w.drewN n ∧ Hid (R = wdsB (ws.drop k) (vs.drop k))) (fun i _ => ws.length - (intOf i).toNat)
  case atStart => exact ⟨0, 0, Nat.zero_le _, rfl, rfl, HX⟩
  case round =>
    clear HX
    obtain ⟨k, n, hk, rfl, rfl, HX⟩ := hrel
    by_cases hp : k < ws.length
    · have hp2 : k < vs.length := by have := unhide HLEN; omega
      have hat := wdsB_at ws vs k hp hp2
      rcases unhide HW with h | ⟨b, off, rfl, hbl, hb, hc⟩
      · rw [h] at hp; simp at hp
      rcases unhide HV with h | ⟨b2, off2, rfl, hbl2, hb2, hc2⟩
      · rw [h] at hp2; simp at hp2
      have hck := hc k hp
      have hck2 := hc2 k hp2
      obtain ⟨x, hx⟩ : ∃ x, ws[k]'hp = x := ⟨_, rfl⟩
      obtain ⟨y, hy⟩ : ∃ y, vs[k]'hp2 = y := ⟨_, rfl⟩
      rw [hx] at hck hat
      rw [hy] at hck2 hat
      have HAT := hide ((unhide HX).trans hat)
      clear hc hc2 hx hy hat
      cases he : (x.toList == y.toList) with
      | true =>
        have HX2 : Hid (R = wdsB (ws.drop (k + 1)) (vs.drop (k + 1))) := hide (by rw [unhide HAT, he]; rfl)
        go_wp2
        go_quiet (fail)
        go_wp2
        go_roundw
        case rel => exact ⟨k + 1, _, by omega, by go_num, rfl, HX2⟩
        case measure => simp [intOf]; omega
      | false =>
        have HR : Hid (R = false) := hide (by rw [unhide HAT, he]; rfl)
        go_wp2
        go_quiet (fail)
        go_wp2
        go_ret
        exact ⟨ret_bool (unhide HR).symm, below_drewN (below_drewN (Below.refl _ _) _) _⟩
    · have HR : Hid (R = true) := hide (by rw [unhide HX, List.drop_of_length_le (by omega), List.drop_of_length_le (by have := unhide HLEN; omega), wdsB])
      go_wp2
      go_ret
      exact ⟨ret_bool (unhide HR).symm, below_drewN (Below.refl _ _) _⟩

set_option maxHeartbeats 1000000 in
theorem equalArgs_any (lo lo' : Nat) (a a' : Option Addr) (cap cap' : Nat) (ws vs : List TA) (w : World) (h : IsArgs (IsArg w lo w.heap.size) w lo w.heap.size a ws) (h' : IsArgs (IsArg w lo' w.heap.size) w lo' w.heap.size a' vs) (hl : ws.length ≤ maxLen) (_hl' : vs.length ≤ maxLen) :
    Calls Try.prog 57 #[.slice a ws.length cap, .slice a' vs.length cap'] w fun r w' => r = .returned (.bool (argsB ws vs)) ∧ Below w.heap.size w w' := by
  unfold maxLen at hl
  have HW := hide h
  have HV := hide h'
  clear h h'
  obtain ⟨R, hR⟩ : ∃ R, argsB ws vs = R := ⟨_, rfl⟩
  rw [hR]
  have HX := hide hR.symm
  clear hR
  cases t5 : ((ws.length : Int) != (vs.length : Int)) with
  | true =>
    have HR : Hid (R = false) := hide (by
      rw [unhide HX]
      refine argsB_ne (fun e => ?_)
      rw [e] at t5; simp at t5)
    go_enter Try.func57, Try.ntmps57
    go_wp2
    go_ret
    exact ⟨ret_bool (unhide HR).symm, Below.refl _ _⟩
  | false =>
  have HLEN : Hid (ws.length = vs.length) := hide (by have : ((ws.length : Int) == (vs.length : Int)) = true := (by simpa [bne] using t5); simp at this; omega)
  go_enter Try.func57, Try.ntmps57
  go_wp2
  clear t5
  go_loopw [13] (fun i wr => ∃ k n : Nat, k ≤ ws.length ∧ i = .int .i64 k ∧ wr = w.drewN n ∧ Hid (R = argsB (ws.drop k) (vs.drop k))) (fun i _ => ws.length - (intOf i).toNat)
  case atStart => exact ⟨0, 0, Nat.zero_le _, rfl, rfl, HX⟩
  case round =>
    clear HX
    obtain ⟨k, n, hk, rfl, rfl, HX⟩ := hrel
    by_cases hp : k < ws.length
    · have hp2 : k < vs.length := by have := unhide HLEN; omega
      have hat := argsB_at ws vs k hp hp2
      rcases unhide HW with h | ⟨b, off, rfl, hbl, hb, hc⟩
      · rw [h] at hp; simp at hp
      rcases unhide HV with h | ⟨b2, off2, rfl, hbl2, hb2, hc2⟩
      · rw [h] at hp2; simp at hp2
      obtain ⟨c0, c1, d0, d1, hr⟩ := hc k hp
      obtain ⟨c0', c1', d0', d1', hr'⟩ := hc2 k hp2
      obtain ⟨x, hx⟩ : ∃ x, ws[k]'hp = x := ⟨_, rfl⟩
      obtain ⟨y, hy⟩ : ∃ y, vs[k]'hp2 = y := ⟨_, rfl⟩
      rw [hx] at hr hat
      rw [hy] at hr' hat
      have hv := hr.1
      have hv' := hr'.1
      simp only [Value.agg.injEq, Array.mk.injEq, List.cons.injEq, and_true] at hv hv'
      obtain ⟨rfl, rfl⟩ := hv
      obtain ⟨rfl, rfl⟩ := hv'
      have HAT := hide ((unhide HX).trans hat)
      clear hc hc2 hx hy hat hr hr'
      cases he : (x.name.toList == y.name.toList) with
      | true =>
        cases he2 : (x.type == y.type) with
        | true =>
          have HX2 : Hid (R = argsB (ws.drop (k + 1)) (vs.drop (k + 1))) := hide (by rw [unhide HAT, he, he2]; rfl)
          go_wp2
          go_quiet (fail)
          go_wp2
          go_roundw
          case rel => exact ⟨k + 1, _, by omega, by go_num, rfl, HX2⟩
          case measure => simp [intOf]; omega
        | false =>
          have HR : Hid (R = false) := hide (by rw [unhide HAT, he2]; simp)
          go_wp2
          go_quiet (fail)
          go_wp2
          go_ret
          exact ⟨ret_bool (unhide HR).symm, below_drewN (below_drewN (Below.refl _ _) _) _⟩
      | false =>
        have HR : Hid (R = false) := hide (by rw [unhide HAT, he]; rfl)
        go_wp2
        go_quiet (fail)
        go_wp2
        go_ret
        exact ⟨ret_bool (unhide HR).symm, below_drewN (below_drewN (Below.refl _ _) _) _⟩
    · have HR : Hid (R = true) := hide (by rw [unhide HX, List.drop_of_length_le (by omega), List.drop_of_length_le (by have := unhide HLEN; omega), argsB])
      go_wp2
      go_ret
      exact ⟨ret_bool (unhide HR).symm, below_drewN (Below.refl _ _) _⟩
end Go.Proofs.Ytambkcchnmbaoaa
