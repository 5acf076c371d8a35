/- The walk of spec.l7SameFun. Conditions: the functions can be read. -/
import Derived.Test.YtbabagdgnnkpeaaCj
namespace Go.Proofs.Ytbabagdgnnkpeaa
open Go.RowKit Go.PlainAid

set_option maxHeartbeats 4000000 in
theorem l7SameFun_any (lo lo2 : Nat) (v v' : Value) (f g : TC) (w : World) (hF : IsCf w lo w.heap.size v f) (hG : IsCf w lo2 w.heap.size v' g) :
    Calls Try.prog 11 #[v, v'] w fun r w' => r = .returned (.bool (cfB f g)) ∧ Below w.heap.size w w' := by
  obtain ⟨nm, pub, args, ty, sl, code⟩ := f
  obtain ⟨nm', pub', args', ty', sl', code'⟩ := g
  obtain ⟨aa, ca, ba, cb, rfl, ⟨hs1, hs2, hs3⟩, ha, hb⟩ := hF
  obtain ⟨aa', ca', ba', cb', rfl, ⟨hs1', hs2', hs3'⟩, ha', hb'⟩ := hG
  dsimp only at hs1 hs2 hs3 ha hb hs1' hs2' hs3' ha' hb' ⊢
  unfold maxLen at hs2 hs3 hs2' hs3'
  obtain ⟨W, hW⟩ : ∃ W, W = (w.alloc (.cells #[Value.string nm, .bool pub, .slice aa args.length ca, .int .i64 ty, .int .i64 sl, .slice ba code.length cb] 42)).alloc (.cells #[Value.string nm', .bool pub', .slice aa' args'.length ca', .int .i64 ty', .int .i64 sl', .slice ba' code'.length cb'] 42) := ⟨_, rfl⟩
  have hBW : Below w.heap.size w W := by rw [hW]; exact ((Below.refl _ _).alloc (Nat.le_refl _) _).alloc (by simp) _
  have hb1 : Blk W w.heap.size [Value.string nm, .bool pub, .slice aa args.length ca, .int .i64 ty, .int .i64 sl, .slice ba code.length cb] := by rw [hW]; exact (Blk.new w [Value.string nm, .bool pub, .slice aa args.length ca, .int .i64 ty, .int .i64 sl, .slice ba code.length cb] 42).old _ (by simp)
  have hb2 : Blk W (w.heap.size + 1) [Value.string nm', .bool pub', .slice aa' args'.length ca', .int .i64 ty', .int .i64 sl', .slice ba' code'.length cb'] := by
    have := Blk.new (w.alloc (.cells #[Value.string nm, .bool pub, .slice aa args.length ca, .int .i64 ty, .int .i64 sl, .slice ba code.length cb] 42)) [Value.string nm', .bool pub', .slice aa' args'.length ca', .int .i64 ty', .int .i64 sl', .slice ba' code'.length cb'] 42
    rw [alloc_size] at this
    rw [hW]; exact this
  have hsz : W.heap.size = w.heap.size + 2 := by rw [hW]; simp
  have HBW := hide hBW
  have HSZ := hide hsz
  have HI := hide (ha.kept hBW hBW.size)
  have HI' := hide (ha'.kept hBW hBW.size)
  have HC := hide (hb.kept hBW hBW.size)
  have HC' := hide (hb'.kept hBW hBW.size)
  have HB1 := hide hb1
  have HB2 := hide hb2
  obtain ⟨R, hR⟩ : ∃ R, cfB ⟨nm, pub, args, ty, sl, code⟩ ⟨nm', pub', args', ty', sl', code'⟩ = R := ⟨_, rfl⟩
  rw [hR]
  have HR := hide hR
  have HF : Hid (nm.toList ≠ nm'.toList ∨ pub ≠ pub' ∨ ty ≠ ty' ∨ sl ≠ sl' ∨ args.length ≠ args'.length ∨ code.length ≠ code'.length → R = false) := hide (fun h => by
    rw [← hR]
    unfold cfB
    dsimp only
    rcases h with h | h | h | h | h | h
    · simp [h]
    · simp [h]
    · simp [h]
    · simp [h]
    · rw [← eqI_all, allE_len h]; simp
    · rw [allE_len h]; simp)
  have HT : Hid (nm.toList = nm'.toList → pub = pub' → ty = ty' → sl = sl' → R = (eqI args args' && allE ciB code code')) := hide (fun h0 h1 h2 h3 => by
    rw [← hR]
    unfold cfB
    simp [h0, h1, h2, h3])
  clear ha hb ha' hb' hs1 hs1' hBW hR hb1 hb2 hsz
  by_cases t0 : nm.toList = nm'.toList
  case neg =>
    have hr := hide (unhide HF (.inl t0))
    have q0 : (nm.toList != nm'.toList) = true := by simpa using t0
    go_enter Try.func11, Try.ntmps11
    go_wp2
    go_ret
    exact ⟨ret_bool (unhide hr).symm, by rw [← hW]; exact unhide HBW⟩
  have q0 : (nm.toList != nm'.toList) = false := by simpa using t0
  have H0 := hide t0
  by_cases t1 : pub = pub'
  case neg =>
    have hr := hide (unhide HF (.inr (.inl t1)))
    have HP := hide t1
    clear t1
    cases pub <;> cases pub'
    all_goals
      first
      | exact absurd rfl (unhide HP)
      | go_enter Try.func11, Try.ntmps11
        go_wp2
        go_ret
        exact ⟨ret_bool (unhide hr).symm, by rw [← hW]; exact unhide HBW⟩
  subst t1
  by_cases t2 : ty = ty'
  case neg =>
    have hr := hide (unhide HF (.inr (.inr (.inl t2))))
    have q2 : (ty != ty') = true := by simpa using t2
    go_enter Try.func11, Try.ntmps11
    go_wp2
    go_ret
    exact ⟨ret_bool (unhide hr).symm, by rw [← hW]; exact unhide HBW⟩
  subst t2
  by_cases t3 : sl = sl'
  case neg =>
    have hr := hide (unhide HF (.inr (.inr (.inr (.inl t3)))))
    have q3 : (sl != sl') = true := by simpa using t3
    go_enter Try.func11, Try.ntmps11
    go_wp2
    go_ret
    exact ⟨ret_bool (unhide hr).symm, by rw [← hW]; exact unhide HBW⟩
  subst t3
  have HT2 := hide (unhide HT (unhide H0) rfl rfl rfl)
  clear HT H0
  by_cases t4 : args.length = args'.length
  case neg =>
    have hr := hide (unhide HF (.inr (.inr (.inr (.inr (.inl t4))))))
    have q4 : ((args.length : Int) != (args'.length : Int)) = true := by simp; omega
    have q42 : ¬ (args.length : Int) = (args'.length : Int) := by omega
    go_enter Try.func11, Try.ntmps11
    go_wp2
    go_ret
    exact ⟨ret_bool (unhide hr).symm, by rw [← hW]; exact unhide HBW⟩
  have q4 : ((args.length : Int) != (args'.length : Int)) = false := by simp [t4]
  have HL1 := hide t4
  by_cases t5 : code.length = code'.length
  case neg =>
    have hr := hide (unhide HF (.inr (.inr (.inr (.inr (.inr t5))))))
    have q5 : ((code.length : Int) != (code'.length : Int)) = true := by simp; omega
    have q52 : ¬ (code.length : Int) = (code'.length : Int) := by omega
    clear t4
    go_enter Try.func11, Try.ntmps11
    go_wp2
    go_ret
    exact ⟨ret_bool (unhide hr).symm, by rw [← hW]; exact unhide HBW⟩
  have q5 : ((code.length : Int) != (code'.length : Int)) = false := by simp [t5]
  have HL2 := hide t5
  clear t4 t5
  have HE1 : Hid (∀ k (h1 : k < args.length) (h2 : k < args'.length), args[k] ≠ args'[k] → R = false) := hide (fun k h1 h2 h => by
    rw [unhide HT2, ← eqI_all, allE_no h1 h2 (by simpa using h)]; rfl)
  have HE2 : Hid (∀ k (h1 : k < code.length) (h2 : k < code'.length), ciB code[k] code'[k] = false → R = false) := hide (fun k h1 h2 h => by
    rw [unhide HT2, allE_no h1 h2 h]; simp)
  have HE3 : Hid ((∀ k (h1 : k < args.length) (h2 : k < args'.length), args[k] = args'[k]) → (∀ k (h1 : k < code.length) (h2 : k < code'.length), ciB code[k] code'[k] = true) → R = true) := hide (fun h h' => by
    rw [unhide HT2, ← eqI_all, allE_yes (unhide HL1) (fun k h1 h2 => by simpa using h k h1 h2), allE_yes (unhide HL2) h']; rfl)
  have heq := equalCis_op
  have hg : Try.prog.eqGuardType Try.prog.depth 55 = false := by kernel_rfl
  go_enter Try.func11, Try.ntmps11
  go_wp2
  rw [← hW]
  clear hW HF HT2
  go_loopw [5] (fun i wr => ∃ k n : Nat, k ≤ args.length ∧ i = .int .i64 k ∧ wr = W.drewN n ∧ Hid (∀ j (h1 : j < args.length) (h2 : j < args'.length), j < k → args[j] = args'[j])) (fun i _ => args.length - (intOf i).toNat)
  case atStart => exact ⟨0, 0, Nat.zero_le _, rfl, rfl, hide (fun j _ _ hj => absurd hj (Nat.not_lt_zero _))⟩
  case round =>
    obtain ⟨k, n, hk, rfl, rfl, HN⟩ := hrel
    have x2 : W.cell? ⟨w.heap.size, 2, none⟩ = some (.slice aa args.length ca) := (unhide HB1).1 2
    have y2 : W.cell? ⟨w.heap.size + 1, 2, none⟩ = some (.slice aa' args'.length ca') := (unhide HB2).1 2
    have x5 : W.cell? ⟨w.heap.size, 5, none⟩ = some (.slice ba code.length cb) := (unhide HB1).1 5
    have y5 : W.cell? ⟨w.heap.size + 1, 5, none⟩ = some (.slice ba' code'.length cb') := (unhide HB2).1 5
    by_cases hp : k < args.length
    · have hp2 : k < args'.length := by have := unhide HL1; omega
      rcases unhide HI with h | ⟨b, off, rfl, hbl, hbn, hc⟩
      · rw [h] at hp; simp at hp
      rcases unhide HI' with h | ⟨b2, off2, rfl, hbl2, hbn2, hc2⟩
      · rw [h] at hp2; simp at hp2
      have hck : W.cell? ⟨b, off + k, none⟩ = _ := hc k hp
      have hck2 : W.cell? ⟨b2, off2 + k, none⟩ = _ := hc2 k hp2
      have HNO := hide (unhide HE1 k hp hp2)
      have HYES := hide (fun (h : args[k]'hp = args'[k]'hp2) (j : Nat) (h1 : j < args.length) (h2 : j < args'.length) (hj : j < k + 1) => show args[j] = args'[j] from by
        by_cases e : j = k
        · subst e; exact h
        · exact unhide HN j h1 h2 (by omega))
      obtain ⟨x, hx⟩ : ∃ x, args[k]'hp = x := ⟨_, rfl⟩
      obtain ⟨y, hy⟩ : ∃ y, args'[k]'hp2 = y := ⟨_, rfl⟩
      rw [hx] at hck HNO HYES
      rw [hy] at hck2 HNO HYES
      clear hc hc2 hx hy heq hg x5 y5
      by_cases he : x = y
      · have HY := hide (unhide HYES he)
        have hxx : (x != y) = false := by simpa using he
        clear he HNO
        go_wp2
        go_quiet (fail)
        go_wp2
        go_roundw
        case rel => exact ⟨k + 1, _, by omega, by go_num, by first | rfl | exact drewN_drewN _ _ _, HY⟩
        case measure => simp [intOf]; omega
      · have HE := hide (unhide HNO he)
        have hxx : (x != y) = true := by simpa using he
        clear he
        go_wp2
        go_quiet (fail)
        go_wp2
        go_ret
        exact ⟨ret_bool (unhide HE).symm, below_drewN (below_drewN (unhide HBW) _) _⟩
    · have HN1 : Hid (∀ k (h1 : k < args.length) (h2 : k < args'.length), args[k] = args'[k]) := hide (fun j h1 h2 => unhide HN j h1 h2 (by omega))
      clear HN
      go_wp2
      clear x2 y2 x5 y5
      go_loopw [6] (fun i wr => ∃ k n : Nat, k ≤ code.length ∧ i = .int .i64 k ∧ wr = W.drewN n ∧ Hid (∀ j (h1 : j < code.length) (h2 : j < code'.length), j < k → ciB code[j] code'[j] = true)) (fun i _ => code.length - (intOf i).toNat)
      case atStart => exact ⟨0, _, Nat.zero_le _, rfl, rfl, hide (fun j _ _ hj => absurd hj (Nat.not_lt_zero _))⟩
      case round =>
        obtain ⟨k, n, hk, rfl, rfl, HN⟩ := hrel
        have x5 : W.cell? ⟨w.heap.size, 5, none⟩ = some (.slice ba code.length cb) := (unhide HB1).1 5
        have y5 : W.cell? ⟨w.heap.size + 1, 5, none⟩ = some (.slice ba' code'.length cb') := (unhide HB2).1 5
        by_cases hp : k < code.length
        · have hp2 : k < code'.length := by have := unhide HL2; omega
          rcases unhide HC with h | ⟨b, off, rfl, hbl, hbn, hc⟩
          · rw [h] at hp; simp at hp
          rcases unhide HC' with h | ⟨b2, off2, rfl, hbl2, hbn2, hc2⟩
          · rw [h] at hp2; simp at hp2
          obtain ⟨c0, c1, d0, d1, hr⟩ := hc k hp
          obtain ⟨e0, e1, z0, z1, hr2⟩ := hc2 k hp2
          have HNO := hide (unhide HE2 k hp hp2)
          have HYES := hide (fun (h : ciB (code[k]'hp) (code'[k]'hp2) = true) (j : Nat) (h1 : j < code.length) (h2 : j < code'.length) (hj : j < k + 1) => show ciB code[j] code'[j] = true from by
            by_cases e : j = k
            · subst e; exact h
            · exact unhide HN j h1 h2 (by omega))
          obtain ⟨s, hx⟩ : ∃ x, code[k]'hp = x := ⟨_, rfl⟩
          obtain ⟨t, hy⟩ : ∃ y, code'[k]'hp2 = y := ⟨_, rfl⟩
          rw [hx] at hr HNO HYES
          rw [hy] at hr2 HNO HYES
          have hr : (Value.agg #[c0, c1]) = .agg #[.int .i64 s.op, .int .i64 s.a] := hr
          have hr2 : (Value.agg #[e0, e1]) = .agg #[.int .i64 t.op, .int .i64 t.a] := hr2
          simp only [Value.agg.injEq, Array.mk.injEq, List.cons.injEq, and_true] at hr hr2
          obtain ⟨rfl, rfl⟩ := hr
          obtain ⟨rfl, rfl⟩ := hr2
          obtain ⟨B, hB⟩ : ∃ B, ciB s t = B := ⟨_, rfl⟩
          rw [hB] at HNO HYES
          have d0 : W.cell? ⟨b, off + k * 2, none⟩ = _ := d0
          have d1 : W.cell? ⟨b, off + k * 2 + 1, none⟩ = _ := d1
          have z0 : W.cell? ⟨b2, off2 + k * 2, none⟩ = _ := z0
          have z1 : W.cell? ⟨b2, off2 + k * 2 + 1, none⟩ = _ := z1
          clear hc hc2 hx hy
          cases B with
          | true =>
            have HY := hide (unhide HYES rfl)
            clear HNO
            go_wp2
            go_quiet (fail)
            clear hB
            go_wp2
            go_roundw
            case rel => exact ⟨k + 1, _, by omega, by go_num, by first | rfl | exact drewN_drewN _ _ _, HY⟩
            case measure => simp [intOf]; omega
          | false =>
            have HE := hide (unhide HNO rfl)
            go_wp2
            go_quiet (fail)
            clear hB
            go_wp2
            go_ret
            exact ⟨ret_bool (unhide HE).symm, below_drewN (below_drewN (unhide HBW) _) _⟩
        · have HE := hide (unhide HE3 (unhide HN1) (fun j h1 h2 => unhide HN j h1 h2 (by omega)))
          clear heq hg
          go_wp2
          go_ret
          exact ⟨ret_bool (unhide HE).symm, below_drewN (unhide HBW) _⟩
end Go.Proofs.Ytbabagdgnnkpeaa
