/- The walks of treeSameParts and of slices.EqualFunc. Conditions: the rows can be read. -/
import Derived.Test.YtambkcchnmbaoaaRd
namespace Go.Proofs.Ytambkcchnmbaoaa
open Go.RowKit Go.PlainAid

def TE.parts : TE → TE → Bool
  | .node k m nm md _, .node k' m' nm' md' _ => partsB k m nm md k' m' nm' md'
def partsL : List TE → List TE → Bool
  | [], [] => true
  | x :: t, y :: r => x.parts y && partsL t r
  | [], _ :: _ => false
  | _ :: _, [] => false
theorem partsL_len : ∀ l r : List TE, partsL l r = true → l.length = r.length
  | [], [], _ => rfl
  | e :: t, e' :: t', h => by
    rw [partsL, Bool.and_eq_true] at h
    rw [List.length_cons, List.length_cons, partsL_len t t' h.2]
  | [], _ :: _, h => by simp [partsL] at h
  | _ :: _, [], h => by simp [partsL] at h
theorem partsL_ne {l r : List TE} (h : l.length ≠ r.length) : partsL l r = false := by
  cases hs : partsL l r with
  | false => rfl
  | true => exact absurd (partsL_len l r hs) h
theorem partsL_at (l r : List TE) (k : Nat) (h : k < l.length) (h' : k < r.length) : partsL (l.drop k) (r.drop k) = (l[k].parts r[k] && partsL (l.drop (k + 1)) (r.drop (k + 1))) := by
  rw [List.drop_eq_getElem_cons h, List.drop_eq_getElem_cons h', partsL]

set_option maxHeartbeats 2000000 in
theorem sameParts_any (lo n lo' n' h h' : Nat) (v v' : Value) (e e' : TE) (w w0 : World) (hE : IsE w0 lo n h v e) (hE' : IsE w0 lo' n' h' v' e') :
    Calls Try.prog 59 #[v, v'] w fun r w' => r = .returned (.bool (e.parts e')) ∧ Below w.heap.size w w' := by
  cases h with
  | zero => exact hE.elim
  | succ h =>
  cases h' with
  | zero => exact hE'.elim
  | succ h' =>
  obtain ⟨k, m, nm, md, ks⟩ := e
  obtain ⟨k', m', nm', md', ks'⟩ := e'
  obtain ⟨a, cap, rfl, _, _⟩ := hE
  obtain ⟨a', cap', rfl, _, _⟩ := hE'
  have HX : Hid ((TE.node k m nm md ks).parts (.node k' m' nm' md' ks') = partsB k m nm md k' m' nm' md') := hide rfl
  unfold partsB at HX
  generalize TE.parts _ _ = R at HX ⊢
  cases t1 : (k == k') with
  | false =>
    have HR : Hid (R = false) := hide (by rw [unhide HX, t1]; simp)
    go_enter Try.func59, Try.ntmps59
    go_wp2
    go_ret
    exact ⟨ret_bool (unhide HR).symm, ((Below.refl _ _).alloc (Nat.le_refl _) _).alloc (by simp) _⟩
  | true =>
  cases t2 : (m == m') with
  | false =>
    have HR : Hid (R = false) := hide (by rw [unhide HX, t2]; simp)
    go_enter Try.func59, Try.ntmps59
    go_wp2
    go_ret
    exact ⟨ret_bool (unhide HR).symm, ((Below.refl _ _).alloc (Nat.le_refl _) _).alloc (by simp) _⟩
  | true =>
  cases t3 : (nm.toList == nm'.toList) with
  | false =>
    have HR : Hid (R = false) := hide (by rw [unhide HX, t3]; simp)
    go_enter Try.func59, Try.ntmps59
    go_wp2
    go_ret
    exact ⟨ret_bool (unhide HR).symm, ((Below.refl _ _).alloc (Nat.le_refl _) _).alloc (by simp) _⟩
  | true =>
  cases t4 : (md.toList == md'.toList) with
  | false =>
    have HR : Hid (R = false) := hide (by rw [unhide HX, t4]; simp)
    go_enter Try.func59, Try.ntmps59
    go_wp2
    go_ret
    exact ⟨ret_bool (unhide HR).symm, ((Below.refl _ _).alloc (Nat.le_refl _) _).alloc (by simp) _⟩
  | true =>
    have HR : Hid (R = true) := hide (by rw [unhide HX, t1, t2, t3, t4]; rfl)
    go_enter Try.func59, Try.ntmps59
    go_wp2
    go_ret
    exact ⟨ret_bool (unhide HR).symm, ((Below.refl _ _).alloc (Nat.le_refl _) _).alloc (by simp) _⟩

set_option maxRecDepth 100000 in
set_option maxHeartbeats 2000000 in
theorem equalParts_any (lo lo' h h' : Nat) (a a' : Option Addr) (cap cap' : Nat) (ks ks' : List TE) (w : World) (hk : IsKids (IsE w lo w.heap.size h) w lo w.heap.size a ks) (hk' : IsKids (IsE w lo' w.heap.size h') w lo' w.heap.size a' ks') (hl : ks.length ≤ maxLen) :
    Calls Try.prog 58 #[.slice a ks.length cap, .slice a' ks'.length cap', .func (.func 59) #[] #[]] w fun r w' => r = .returned (.bool (partsL ks ks')) ∧ Below w.heap.size w w' := by
  unfold maxLen at hl
  have HK := hide hk
  have HK' := hide hk'
  clear hk hk'
  obtain ⟨R, hR⟩ : ∃ R, partsL ks ks' = R := ⟨_, rfl⟩
  rw [hR]
  have HX := hide hR.symm
  clear hR
  cases t5 : ((ks.length : Int) != (ks'.length : Int)) with
  | true =>
    have HR : Hid (R = false) := hide (by
      rw [unhide HX]
      refine partsL_ne (fun e => ?_)
      rw [e] at t5; simp at t5)
    go_enter Try.func58, Try.ntmps58
    go_wp2
    go_ret
    exact ⟨ret_bool (unhide HR).symm, Below.refl _ _⟩
  | false =>
  have HLEN : Hid (ks.length = ks'.length) := hide (by have := ne_yes t5; simp at this; omega)
  go_enter Try.func58, Try.ntmps58
  go_wp2
  clear t5
  go_loopw [17] (fun i wr => ∃ j : Nat, j ≤ ks.length ∧ i = .int .i64 j ∧ Hid (R = partsL (ks.drop j) (ks'.drop j)) ∧ Hid (Below w.heap.size w wr)) (fun i _ => ks.length - (intOf i).toNat)
  case atStart => exact ⟨0, Nat.zero_le _, rfl, HX, hide (Below.refl _ _)⟩
  case round =>
    clear HX
    obtain ⟨j, hj, rfl, HX, HB⟩ := hrel
    by_cases hp : j < ks.length
    · have hp' : j < ks'.length := by have := unhide HLEN; omega
      have hat := partsL_at ks ks' j hp hp'
      rcases (unhide HK).kept (unhide HB) (unhide HB).size with hq | ⟨b, off, rfl, hbl, hbn, hcs⟩
      · rw [hq] at hp; simp at hp
      rcases (unhide HK').kept (unhide HB) (unhide HB).size with hq | ⟨b', off', rfl, hbl', hbn', hcs'⟩
      · rw [hq] at hp'; simp at hp'
      obtain ⟨c0, c1, c2, c3, c4, d0, d1, d2, d3, d4, hr⟩ := hcs j hp
      obtain ⟨c0', c1', c2', c3', c4', d0', d1', d2', d3', d4', hr'⟩ := hcs' j hp'
      generalize ks[j] = x at hr hat
      generalize ks'[j] = x' at hr' hat
      have HAT := hide ((unhide HX).trans hat)
      have HQ := hide (fun (W : World) (hb : Below wr.heap.size wr W) => sameParts_any lo wr.heap.size lo' wr.heap.size h h' _ _ x x' W wr hr hr')
      obtain ⟨xk, xm, xn, xd, xa, xl, xc, rfl, rfl, rfl, rfl, rfl⟩ := hr.form5
      obtain ⟨yk, ym, yn, yd, ya, yl, yc, rfl, rfl, rfl, rfl, rfl⟩ := hr'.form5
      clear hcs hcs' hr hr' hat
      go_wp2_with fail
      refine (unhide HQ _ ?hb).mono ?_
      case hb => exact ((Below.refl _ _).alloc (Nat.le_refl _) _).alloc (by simp) _
      rintro r w2 ⟨rfl, hb2⟩
      have HB2 := hide ((unhide HB).trans ((((Below.refl _ wr).alloc (Nat.le_refl _) _).alloc (by simp) _).trans (hb2.mono (by simp; omega)) |>.mono (unhide HB).size))
      clear hb2
      cases hb : x.parts x' with
      | true =>
        have HX2 : Hid (R = partsL (ks.drop (j + 1)) (ks'.drop (j + 1))) := hide (by rw [unhide HAT, hb]; rfl)
        go_wp2
        go_roundw
        case rel => exact ⟨j + 1, by omega, by go_num, HX2, HB2⟩
        case measure => simp [intOf]; omega
      | false =>
        have HR : Hid (R = false) := hide (by rw [unhide HAT, hb]; rfl)
        go_wp2
        go_ret
        exact ⟨ret_bool (unhide HR).symm, unhide HB2⟩
    · have HR : Hid (R = true) := hide (by rw [unhide HX, List.drop_of_length_le (by omega), List.drop_of_length_le (by have := unhide HLEN; omega), partsL])
      go_wp2
      go_ret
      exact ⟨ret_bool (unhide HR).symm, unhide HB⟩
end Go.Proofs.Ytambkcchnmbaoaa
