/- The walks of spec.l2SameFun and spec.TreeSame. Conditions: the modules can be read. -/
import Derived.Test.YtambkcchnmbaoaaRa
import Derived.Test.YtambkcchnmbaoaaRb
namespace Go.Proofs.Ytambkcchnmbaoaa
open Go.RowKit Go.PlainAid

/-- Two functions are one. -/
def TF.same (f g : TF) : Bool := (f.name.toList == g.name.toList) && ((f.pub == g.pub) && ((f.type == g.type) && (argsB f.args g.args && f.body.same g.body)))
def funsB : List TF → List TF → Bool
  | [], [] => true
  | x :: t, y :: r => x.same y && funsB t r
  | [], _ :: _ => false
  | _ :: _, [] => false
theorem funsB_len : ∀ l r : List TF, funsB l r = true → l.length = r.length
  | [], [], _ => rfl
  | e :: t, e' :: t', h => by
    rw [funsB, Bool.and_eq_true] at h
    rw [List.length_cons, List.length_cons, funsB_len t t' h.2]
  | [], _ :: _, h => by simp [funsB] at h
  | _ :: _, [], h => by simp [funsB] at h
theorem funsB_ne {l r : List TF} (h : l.length ≠ r.length) : funsB l r = false := by
  cases hs : funsB l r with
  | false => rfl
  | true => exact absurd (funsB_len l r hs) h
theorem funsB_at (l r : List TF) (k : Nat) (h : k < l.length) (h' : k < r.length) : funsB (l.drop k) (r.drop k) = (l[k].same r[k] && funsB (l.drop (k + 1)) (r.drop (k + 1))) := by
  rw [List.drop_eq_getElem_cons h, List.drop_eq_getElem_cons h', funsB]
/-- Two modules are one. -/
def TM.same (m m' : TM) : Bool := wdsB m.uses m'.uses && (funsB m.funs m'.funs && sameL m.main m'.main)

set_option maxRecDepth 100000 in
set_option maxHeartbeats 4000000 in
theorem l2SameFun_any (lo lo' h h' : Nat) (v v' : Value) (f g : TF) (w : World) (hF : IsFun w lo w.heap.size h v f) (hG : IsFun w lo' w.heap.size h' v' g) :
    Calls Try.prog 43 #[v, v'] w fun r w' => r = .returned (.bool (f.same g)) ∧ Below w.heap.size w w' := by
  have HX : Hid (f.same g = ((f.name.toList == g.name.toList) && ((f.pub == g.pub) && ((f.type == g.type) && (argsB f.args g.args && f.body.same g.body))))) := hide rfl
  obtain ⟨nm, pub, args, ty, body⟩ := f
  obtain ⟨nm', pub', args', ty', body'⟩ := g
  obtain ⟨aa, ca, b0, b1, b2, b3, b4, rfl, ⟨_, hs2⟩, ha, hE⟩ := hF
  obtain ⟨aa', ca', b0', b1', b2', b3', b4', rfl, ⟨_, hs2'⟩, ha', hE'⟩ := hG
  dsimp only at hs2 hs2' ha ha' hE hE' HX ⊢
  generalize TF.same _ _ = R at HX ⊢
  have HA := hide ha
  have HA' := hide ha'
  have HE := hide (fun (W : World) (hb : Below w.heap.size w W) => l2SameExpr_any lo lo' h _ _ body body' W h' (IsE.kept hb hb.size h _ _ hE) (IsE.kept hb hb.size h' _ _ hE'))
  unfold maxLen at hs2 hs2'
  clear ha ha' hE hE'
  cases t1 : (nm.toList == nm'.toList) with
  | false =>
    have HR : Hid (R = false) := hide (by rw [unhide HX, t1]; rfl)
    go_enter Try.func43, Try.ntmps43
    go_wp2
    go_ret
    exact ⟨ret_bool (unhide HR).symm, ((Below.refl _ _).alloc (Nat.le_refl _) _).alloc (by simp) _⟩
  | true =>
  by_cases hpb : pub = pub'
  case neg =>
    have HR : Hid (R = false) := hide (by rw [unhide HX, beq_eq_false_iff_ne.2 hpb]; simp)
    cases pub <;> cases pub'
    · exact absurd rfl hpb
    · go_enter Try.func43, Try.ntmps43
      go_wp2
      go_ret
      exact ⟨ret_bool (unhide HR).symm, ((Below.refl _ _).alloc (Nat.le_refl _) _).alloc (by simp) _⟩
    · go_enter Try.func43, Try.ntmps43
      go_wp2
      go_ret
      exact ⟨ret_bool (unhide HR).symm, ((Below.refl _ _).alloc (Nat.le_refl _) _).alloc (by simp) _⟩
    · exact absurd rfl hpb
  subst hpb
  have t2 : (pub != pub) = false := by simp
  cases t3 : (ty != ty') with
  | true =>
    have HR : Hid (R = false) := hide (by rw [unhide HX, ne_no t3]; simp)
    go_enter Try.func43, Try.ntmps43
    go_wp2
    go_ret
    exact ⟨ret_bool (unhide HR).symm, ((Below.refl _ _).alloc (Nat.le_refl _) _).alloc (by simp) _⟩
  | false =>
  cases t4 : ((args.length : Int) != (args'.length : Int)) with
  | true =>
    have HR : Hid (R = false) := hide (by
      rw [unhide HX, argsB_ne (fun e => by rw [e] at t4; simp at t4)]; simp)
    go_enter Try.func43, Try.ntmps43
    go_wp2
    go_ret
    exact ⟨ret_bool (unhide HR).symm, ((Below.refl _ _).alloc (Nat.le_refl _) _).alloc (by simp) _⟩
  | false =>
  have HLEN : Hid (args.length = args'.length) := hide (by have := ne_yes t4; simp at this; omega)
  have HX1 : Hid (R = (argsB args args' && body.same body')) := hide (by rw [unhide HX, t1, ne_yes t2, ne_yes t3]; rfl)
  clear HX
  go_enter Try.func43, Try.ntmps43
  go_wp2_with fail
  refine (unhide HE _ (((Below.refl _ w).alloc (Nat.le_refl _) _).alloc (by simp) _)).mono ?_
  rintro r w2 ⟨rfl, hb2⟩
  have hB2 := ((((Below.refl w.heap.size w).alloc (Nat.le_refl _) _).alloc (by simp) _).trans (hb2.mono (by simp; omega)))
  have n1 : Blk w2 w.heap.size [Value.string nm, .bool pub, .slice aa args.length ca, .int .i64 ty, b0, b1, b2, b3, b4] := ((Blk.new w [Value.string nm, .bool pub, .slice aa args.length ca, .int .i64 ty, b0, b1, b2, b3, b4] 63).old _ (by simp)).below hb2 (by simp; omega)
  have n2 : Blk w2 (w.heap.size + 1) [Value.string nm', .bool pub, .slice aa' args'.length ca', .int .i64 ty', b0', b1', b2', b3', b4'] := by
    have := (Blk.new (w.alloc (.cells #[Value.string nm, .bool pub, .slice aa args.length ca, .int .i64 ty, b0, b1, b2, b3, b4] 63)) [Value.string nm', .bool pub, .slice aa' args'.length ca', .int .i64 ty', b0', b1', b2', b3', b4'] 63).below hb2 (by simp)
    rw [alloc_size] at this
    exact this
  have p2 := n1.cellAt (i := 2) rfl
  have r2 := n2.cellAt (i := 2) rfl
  have HB2 := hide hB2
  clear hb2 hB2 n1 n2 t1 t2 t3 t4
  cases hbb : body.same body' with
  | false =>
    have HR : Hid (R = false) := hide (by rw [unhide HX1, hbb]; simp)
    go_wp2
    go_ret
    exact ⟨ret_bool (unhide HR).symm, unhide HB2⟩
  | true =>
  have HX2 : Hid (R = argsB args args') := hide (by rw [unhide HX1, hbb]; simp)
  clear HX1
  go_wp2
  go_loopw [5] (fun i wr => ∃ k n : Nat, k ≤ args.length ∧ i = .int .i64 k ∧ wr = w2.drewN n ∧ Hid (R = argsB (args.drop k) (args'.drop k))) (fun i _ => args.length - (intOf i).toNat)
  case atStart => exact ⟨0, 0, Nat.zero_le _, rfl, rfl, HX2⟩
  case round =>
    clear HX2
    obtain ⟨k, n, hk, rfl, rfl, HX⟩ := hrel
    by_cases hp : k < args.length
    · have hp2 : k < args'.length := by have := unhide HLEN; omega
      have hat := argsB_at args args' k hp hp2
      rcases (unhide HA).kept (unhide HB2) (unhide HB2).size with h | ⟨b, off, rfl, hbl, hb, hc⟩
      · rw [h] at hp; simp at hp
      rcases (unhide HA').kept (unhide HB2) (unhide HB2).size with h | ⟨b', off', rfl, hbl2, hb2, hc2⟩
      · rw [h] at hp2; simp at hp2
      obtain ⟨c0, c1, d0, d1, hr⟩ := hc k hp
      obtain ⟨c0', c1', d0', d1', hr'⟩ := hc2 k hp2
      obtain ⟨x, hx⟩ : ∃ x, args[k]'hp = x := ⟨_, rfl⟩
      obtain ⟨y, hy⟩ : ∃ y, args'[k]'hp2 = y := ⟨_, rfl⟩
      rw [hx] at hr hat
      rw [hy] at hr' hat
      have hv := hr.1
      have hv' := hr'.1
      simp only [Value.agg.injEq, Array.mk.injEq, List.cons.injEq, and_true] at hv hv'
      obtain ⟨rfl, rfl⟩ := hv
      obtain ⟨rfl, rfl⟩ := hv'
      have HAT := hide ((unhide HX).trans hat)
      clear hc hc2 hx hy hat hr hr'
      cases he : (x.name.toList == y.name.toList) with
      | true =>
        cases he2 : (x.type == y.type) with
        | true =>
          have HX2 : Hid (R = argsB (args.drop (k + 1)) (args'.drop (k + 1))) := hide (by rw [unhide HAT, he, he2]; rfl)
          go_wp2
          go_quiet (fail)
          go_wp2
          go_roundw
          case rel => exact ⟨k + 1, _, by omega, by go_num, rfl, HX2⟩
          case measure => simp [intOf]; omega
        | false =>
          have HR : Hid (R = false) := hide (by rw [unhide HAT, he2]; simp)
          go_wp2
          go_quiet (fail)
          go_wp2
          go_ret
          exact ⟨ret_bool (unhide HR).symm, below_drewN (below_drewN (unhide HB2) _) _⟩
      | false =>
        have HR : Hid (R = false) := hide (by rw [unhide HAT, he]; rfl)
        go_wp2
        go_quiet (fail)
        go_wp2
        go_ret
        exact ⟨ret_bool (unhide HR).symm, below_drewN (below_drewN (unhide HB2) _) _⟩
    · have HR : Hid (R = true) := hide (by rw [unhide HX, List.drop_of_length_le (by omega), List.drop_of_length_le (by have := unhide HLEN; omega), argsB])
      go_wp2
      go_ret
      exact ⟨ret_bool (unhide HR).symm, below_drewN (unhide HB2) _⟩
end Go.Proofs.Ytambkcchnmbaoaa
