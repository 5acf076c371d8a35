/- The walk of spec.l2SameExpr. Conditions: the expressions can be read. -/
import Derived.Test.YtambkcchnmbaoaaUe
import Derived.Deep.RegionWith
namespace Go.Proofs.Ytambkcchnmbaoaa
open Go.RowKit Go.PlainAid

def partsB (k m : Int) (nm md : ByteArray) (k' m' : Int) (nm' md' : ByteArray) : Bool := (k == k') && ((m == m') && ((nm.toList == nm'.toList) && (md.toList == md'.toList)))
mutual
/-- Two expressions are one. -/
def TE.same : TE → TE → Bool
  | .node k m nm md ks, .node k' m' nm' md' ks' => partsB k m nm md k' m' nm' md' && sameL ks ks'
def sameL : List TE → List TE → Bool
  | [], [] => true
  | e :: t, e' :: t' => e.same e' && sameL t t'
  | [], _ :: _ => false
  | _ :: _, [] => false
end
theorem sameL_len : ∀ l r : List TE, sameL l r = true → l.length = r.length
  | [], [], _ => rfl
  | e :: t, e' :: t', h => by
    rw [sameL, Bool.and_eq_true] at h
    rw [List.length_cons, List.length_cons, sameL_len t t' h.2]
  | [], _ :: _, h => by simp [sameL] at h
  | _ :: _, [], h => by simp [sameL] at h
theorem sameL_ne {l r : List TE} (h : l.length ≠ r.length) : sameL l r = false := by
  cases hs : sameL l r with
  | false => rfl
  | true => exact absurd (sameL_len l r hs) h
theorem sameL_at : ∀ (l r : List TE) (k : Nat) (h : k < l.length) (h' : k < r.length), sameL (l.drop k) (r.drop k) = (l[k].same r[k] && sameL (l.drop (k + 1)) (r.drop (k + 1))) := fun l r k h h' => by
  rw [List.drop_eq_getElem_cons h, List.drop_eq_getElem_cons h', sameL]
theorem ne_no {α : Type} [BEq α] {a b : α} (h : (a != b) = true) : (a == b) = false := by simpa [bne] using h
theorem ne_yes {α : Type} [BEq α] {a b : α} (h : (a != b) = false) : (a == b) = true := by simpa [bne] using h

set_option maxRecDepth 100000 in
set_option maxHeartbeats 2000000 in
theorem l2SameExpr_any (lo lo' : Nat) : ∀ (h : Nat) (v v' : Value) (e e' : TE) (w : World) (h' : Nat), IsE w lo w.heap.size h v e → IsE w lo' w.heap.size h' v' e' →
    Calls Try.prog 44 #[v, v'] w fun r w' => r = .returned (.bool (e.same e')) ∧ Below w.heap.size w w' := by
  intro h
  induction h with
  | zero => intro v v' e e' w h' hE; exact hE.elim
  | succ h ih =>
    intro v v' e e' w h' hE hE'
    cases h' with
    | zero => exact hE'.elim
    | succ h' =>
    obtain ⟨k, m, nm, md, ks⟩ := e
    obtain ⟨k', m', nm', md', ks'⟩ := e'
    obtain ⟨a, cap, rfl, ⟨_, _, hl⟩, hk⟩ := hE
    obtain ⟨a', cap', rfl, ⟨_, _, hl'⟩, hk'⟩ := hE'
    have HX : Hid ((TE.node k m nm md ks).same (.node k' m' nm' md' ks') = (partsB k m nm md k' m' nm' md' && sameL ks ks')) := hide (by rw [TE.same])
    unfold partsB at HX
    generalize TE.same _ _ = R at HX ⊢
    have HK := hide hk
    have HK' := hide hk'
    have IH := hide ih
    unfold maxLen at hl hl'
    clear hk hk' ih
    cases t1 : (k != k') with
    | true =>
      have HR : Hid (R = false) := hide (by rw [unhide HX, ne_no t1]; rfl)
      go_enter Try.func44, Try.ntmps44
      go_wp2
      go_ret
      exact ⟨ret_bool (unhide HR).symm, ((Below.refl _ _).alloc (Nat.le_refl _) _).alloc (by simp) _⟩
    | false =>
    cases t2 : (m != m') with
    | true =>
      have HR : Hid (R = false) := hide (by rw [unhide HX, ne_no t2]; simp)
      go_enter Try.func44, Try.ntmps44
      go_wp2
      go_ret
      exact ⟨ret_bool (unhide HR).symm, ((Below.refl _ _).alloc (Nat.le_refl _) _).alloc (by simp) _⟩
    | false =>
    cases t3 : (nm.toList == nm'.toList) with
    | false =>
      have HR : Hid (R = false) := hide (by rw [unhide HX, t3]; simp)
      go_enter Try.func44, Try.ntmps44
      go_wp2
      go_ret
      exact ⟨ret_bool (unhide HR).symm, ((Below.refl _ _).alloc (Nat.le_refl _) _).alloc (by simp) _⟩
    | true =>
    cases t4 : (md.toList == md'.toList) with
    | false =>
      have HR : Hid (R = false) := hide (by rw [unhide HX, t4]; simp)
      go_enter Try.func44, Try.ntmps44
      go_wp2
      go_ret
      exact ⟨ret_bool (unhide HR).symm, ((Below.refl _ _).alloc (Nat.le_refl _) _).alloc (by simp) _⟩
    | true =>
    have HX1 : Hid (R = sameL ks ks') := hide (by rw [unhide HX, ne_yes t1, ne_yes t2, t3, t4]; rfl)
    clear HX
    cases t5 : ((ks.length : Int) != (ks'.length : Int)) with
    | true =>
      have HR : Hid (R = false) := hide (by
        rw [unhide HX1]
        refine sameL_ne (fun e => ?_)
        rw [e] at t5; simp at t5)
      go_enter Try.func44, Try.ntmps44
      go_wp2
      go_ret
      exact ⟨ret_bool (unhide HR).symm, ((Below.refl _ _).alloc (Nat.le_refl _) _).alloc (by simp) _⟩
    | false =>
    have HLEN : Hid (ks.length = ks'.length) := hide (by have := ne_yes t5; simp at this; omega)
    go_enter Try.func44, Try.ntmps44
    go_wp2
    clear t1 t2 t3 t4 t5
    go_loopw [5] (fun i wr => ∃ j : Nat, j ≤ ks.length ∧ i = .int .i64 j ∧ Hid (R = sameL (ks.drop j) (ks'.drop j)) ∧ wr.cell? ⟨w.heap.size, 4, none⟩ = some (.slice a ks.length cap) ∧ wr.cell? ⟨w.heap.size + 1, 4, none⟩ = some (.slice a' ks'.length cap') ∧ Hid (w.heap.size + 1 < wr.heap.size) ∧ Hid (Below w.heap.size w wr)) (fun i _ => ks.length - (intOf i).toNat)
    case atStart => exact ⟨0, Nat.zero_le _, rfl, HX1, by simp, by simp, hide (by simp), hide (((Below.refl _ _).alloc (Nat.le_refl _) _).alloc (by simp) _)⟩
    case round =>
      clear HX1
      obtain ⟨j, hj, rfl, HX2, q1, q2, HZ, HB⟩ := hrel
      by_cases hp : j < ks.length
      · have hp' : j < ks'.length := by have := unhide HLEN; omega
        have hat := sameL_at ks ks' j hp hp'
        rcases (unhide HK).kept (unhide HB) (unhide HB).size with hq | ⟨b, off, rfl, hbl, hbn, hcs⟩
        · rw [hq] at hp; simp at hp
        rcases (unhide HK').kept (unhide HB) (unhide HB).size with hq | ⟨b', off', rfl, hbl', hbn', hcs'⟩
        · rw [hq] at hp'; simp at hp'
        obtain ⟨c0, c1, c2, c3, c4, d0, d1, d2, d3, d4, hr⟩ := hcs j hp
        obtain ⟨c0', c1', c2', c3', c4', d0', d1', d2', d3', d4', hr'⟩ := hcs' j hp'
        generalize ks[j] = x at hr hat
        generalize ks'[j] = x' at hr' hat
        have HAT := hide ((unhide HX2).trans hat)
        have HQ := hide (fun (W : World) (hb : Below wr.heap.size wr W) => unhide IH _ _ x x' W h' (IsE.kept hb hb.size h _ _ hr) (IsE.kept hb hb.size h' _ _ hr'))
        clear hcs hcs' hr hr' hat
        obtain ⟨B, hB⟩ : ∃ B, x.same x' = B := ⟨_, rfl⟩
        simp only [hB] at HQ
        rw [hB] at HAT
        clear hB
        cases B with
        | true =>
          go_wp2
          go_region_with (go_at_call 44; refine (unhide HQ _ (Below.refl _ _).drew).mono ?_; rintro r w2 ⟨rfl, hb2⟩)
          all_goals
            have hb3 : Below wr.heap.size wr w2 := (Below.refl _ wr).drew.trans hb2
            have u1 := (hb3.cell (p := ⟨w.heap.size, 4, none⟩) (by have := unhide HZ; show w.heap.size < _; omega)).trans q1
            have u2 := (hb3.cell (p := ⟨w.heap.size + 1, 4, none⟩) (by exact unhide HZ)).trans q2
            have HB3 := hide ((unhide HB).trans (hb3.mono (unhide HB).size))
            have HZ3 : Hid (w.heap.size + 1 < w2.heap.size) := hide (by have := unhide HZ; have := hb3.size; omega)
            clear q1 q2 hb2 hb3
            go_wp2
            go_roundw
            case rel => exact ⟨j + 1, by omega, by go_num, HAT, u1, u2, HZ3, HB3⟩
            case measure => simp [intOf]; omega
        | false =>
          go_wp2
          go_region_with (go_at_call 44; refine (unhide HQ _ (Below.refl _ _).drew).mono ?_; rintro r w2 ⟨rfl, hb2⟩)
          all_goals
            have HB3 := hide ((unhide HB).trans (((Below.refl _ wr).drew.trans hb2).mono (unhide HB).size))
            clear hb2
            go_wp2
            go_ret
            exact ⟨ret_bool (unhide HAT).symm, unhide HB3⟩
      · have HR : Hid (R = true) := hide (by
          rw [unhide HX2, List.drop_of_length_le (by omega), List.drop_of_length_le (by have := unhide HLEN; omega), sameL])
        go_wp2
        go_ret
        exact ⟨ret_bool (unhide HR).symm, unhide HB⟩
end Go.Proofs.Ytambkcchnmbaoaa
