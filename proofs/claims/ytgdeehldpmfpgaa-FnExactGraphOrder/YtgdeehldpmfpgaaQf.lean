/- What a graph is; the walks of spec.GraphOk and impl.GraphOk. Conditions: the nodes can be read. -/
import Derived.Test.YtgdeehldpmfpgaaQd
namespace Go.Proofs.Ytgdeehldpmfpgaa
open Go.RowKit Go.PlainAid

theorem less_total : ∀ x y : List UInt8, (!(Op.bytesLess y x)) = (Op.bytesLess x y || x == y)
  | [], [] => by simp [Op.bytesLess]
  | [], b :: y => by simp [Op.bytesLess]
  | a :: x, [] => by simp [Op.bytesLess]
  | a :: x, b :: y => by
    have ih := less_total x y
    simp only [Op.bytesLess]
    by_cases h : a = b
    · subst h
      simpa using ih
    · have h2 : ¬ b = a := fun e => h e.symm
      have e1 : (a == b) = false := by simpa using h
      have e2 : (b == a) = false := by simpa using h2
      have e3 : ((a :: x) == (b :: y)) = false := by simp [h]
      rw [e1, e2, e3]
      simp only [Bool.false_and, Bool.or_false]
      rcases Nat.lt_or_gt_of_ne (fun e => h (UInt8.toNat_inj.1 e) : a.toNat ≠ b.toNat) with g | g
      · have g1 : a < b := UInt8.lt_iff_toNat_lt.2 g
        have g2 : ¬ b < a := fun k => by have := UInt8.lt_iff_toNat_lt.1 k; omega
        simp [g1, g2]
      · have g1 : b < a := UInt8.lt_iff_toNat_lt.2 g
        have g2 : ¬ a < b := fun k => by have := UInt8.lt_iff_toNat_lt.1 k; omega
        simp [g1, g2]
def leN (a b : ByteArray) : Bool := Op.bytesLess a.toList b.toList || a.toList == b.toList
/-- A graph: at most eight nodes, each with at most four uses, ascending. -/
def GoodG (l : List TG) : Prop := l.length ≤ 8 ∧ (∀ j (hj : j < l.length), l[j].uses.length ≤ 4) ∧ ∀ j (hj : j + 1 < l.length), leN l[j + 1].name l[j].name = false
noncomputable def graphB (l : List TG) : Bool := @decide (GoodG l) (Classical.propDecidable _)
theorem graphB_yes {l : List TG} (h : GoodG l) : graphB l = true := by unfold graphB; exact @decide_eq_true _ (Classical.propDecidable _) h
theorem graphB_no {l : List TG} (h : ¬ GoodG l) : graphB l = false := by unfold graphB; exact @decide_eq_false _ (Classical.propDecidable _) h

set_option maxHeartbeats 4000000 in
theorem GraphOkS_any (lo : Nat) (a : Option Addr) (cap : Nat) (l : List TG) (w : World) (hk : IsGns (IsGn w lo w.heap.size) w lo w.heap.size a l) (hl : l.length ≤ maxLen) :
    Calls Try.prog 16 #[.slice a l.length cap] w fun r w' => r = .returned (.bool (graphB l)) ∧ Below w.heap.size w w' := by
  unfold maxLen at hl
  have HK := hide hk
  clear hk
  by_cases h8 : 8 < l.length
  · have HR : Hid (graphB l = false) := hide (graphB_no (fun h => by have := h.1; omega))
    go_enter Try.func16, Try.ntmps16
    go_wp2
    go_ret
    exact ⟨ret_bool (unhide HR).symm, Below.refl _ _⟩
  have H8 : Hid (l.length ≤ 8) := hide (by omega)
  go_enter Try.func16, Try.ntmps16
  go_wp2
  go_loopw [3] (fun i wr => ∃ k : Nat, k ≤ l.length ∧ i = .int .i64 k ∧ Hid (∀ j (hj : j < l.length), j < k → l[j].uses.length ≤ 4) ∧ Hid (∀ j (hj : j + 1 < l.length), j + 1 < k → leN l[j + 1].name l[j].name = false) ∧ Hid (Below w.heap.size w wr)) (fun i _ => l.length - (intOf i).toNat)
  case atStart => exact ⟨0, Nat.zero_le _, rfl, hide (fun j _ hj => absurd hj (Nat.not_lt_zero _)), hide (fun j _ hj => absurd hj (Nat.not_lt_zero _)), hide (Below.refl _ _)⟩
  case round =>
    obtain ⟨k, hk, rfl, HI, HJ, HB⟩ := hrel
    by_cases hp : k < l.length
    · rcases (unhide HK).kept (unhide HB) (unhide HB).size with hq | ⟨b, off, rfl, hbl, hbn, hcs⟩
      · rw [hq] at hp; simp at hp
      obtain ⟨c0, c1, d0, d1, hr⟩ := hcs k hp
      obtain ⟨aa, ca, hv, ⟨z1, z2, z3⟩, ha⟩ := hr
      simp only [Value.agg.injEq, Array.mk.injEq, List.cons.injEq, and_true] at hv
      obtain ⟨rfl, rfl⟩ := hv
      unfold maxLen at z2
      clear ha z1 z3
      have HI1 := hide (fun (h : ¬ (l[k]'hp).uses.length ≤ 4) => graphB_no (l := l) (fun g => h (g.2.1 k hp)))
      have HI2 := hide (fun (h : (l[k]'hp).uses.length ≤ 4) (j : Nat) (hj : j < l.length) (hjk : j < k + 1) => show l[j].uses.length ≤ 4 from by
        by_cases e : j = k
        · subst e; exact h
        · exact unhide HI j hj (by omega))
      by_cases h0 : k = 0
      · subst h0
        have HJ2 : Hid (∀ j (hj : j + 1 < l.length), j + 1 < 0 + 1 → leN l[j + 1].name l[j].name = false) := hide (fun j hj h => by omega)
        obtain ⟨s, hs⟩ : ∃ s, l[0]'hp = s := ⟨_, rfl⟩
        rw [hs] at HI1 HI2 d0 d1 z2
        obtain ⟨U, hU⟩ : ∃ U, s.uses.length = U := ⟨_, rfl⟩
        rw [hU] at HI1 HI2 d1 z2
        clear hcs hs hU HI HJ
        simp only [Nat.zero_mul, Nat.add_zero, Int.natCast_zero] at d0 d1 ⊢
        by_cases hu : U ≤ 4
        · have HI3 := hide (unhide HI2 hu)
          have hg1 : decide (4 < U) = false := decide_eq_false (by omega)
          have hg2 : decide ((4 : Int) < (U : Int)) = false := decide_eq_false (by omega)
          clear HI1 HI2
          go_wp2
          go_quiet (fail)
          go_wp2
          go_roundw
          case rel => exact ⟨1, by omega, by go_num, HI3, HJ2, hide (by first | exact below_drewN (unhide HB) _ | exact (unhide HB).drew)⟩
          case measure => simp [intOf] <;> omega
        · have HR := hide (unhide HI1 hu)
          have hg1 : decide (4 < U) = true := decide_eq_true (by omega)
          have hg2 : decide ((4 : Int) < (U : Int)) = true := decide_eq_true (by omega)
          clear HI1 HI2
          go_wp2
          go_quiet (fail)
          go_wp2
          go_ret
          exact ⟨ret_bool (unhide HR).symm, (by first | exact below_drewN (unhide HB) _ | exact (unhide HB).drew)⟩
      · obtain ⟨m, hm⟩ : ∃ m, k = m + 1 := ⟨k - 1, by omega⟩
        have hpm : m < l.length := by omega
        obtain ⟨x0, x1, y0, y1, hr'⟩ := hcs m hpm
        obtain ⟨aa', ca', hv', _, _⟩ := hr'
        simp only [Value.agg.injEq, Array.mk.injEq, List.cons.injEq, and_true] at hv'
        obtain ⟨rfl, rfl⟩ := hv'
        have HJ1 := hide (fun (h : leN (l[k]'hp).name (l[m]'hpm).name = true) => graphB_no (l := l) (fun g => by subst hm; have := g.2.2 m hp; rw [h] at this; cases this))
        have HJ2 := hide (fun (h : leN (l[k]'hp).name (l[m]'hpm).name = false) (j : Nat) (hj : j + 1 < l.length) (hjk : j + 1 < k + 1) => show leN l[j + 1].name l[j].name = false from by
          subst hm
          by_cases e : j = m
          · subst e; exact h
          · exact unhide HJ j hj (by omega))
        have hw1 : IntKind.i64.wrap (m : Int) = (m : Int) := by rw [IntKind.wrap_i64]; omega
        have hw2 : (k : Int) - 1 = (m : Int) := by omega
        have hkp : decide ((0 : Int) < (k : Int)) = true := decide_eq_true (by omega)
        have hkq : 0 < k := by omega
        have hkd : decide (0 < k) = true := decide_eq_true hkq
        obtain ⟨s, hs⟩ : ∃ s, l[k]'hp = s := ⟨_, rfl⟩
        rw [hs] at HI1 HI2 HJ1 HJ2 d0 d1 z2
        obtain ⟨t, ht⟩ : ∃ t, (l[m]'hpm) = t := ⟨_, rfl⟩
        rw [ht] at HJ1 HJ2 y0
        obtain ⟨U, hU⟩ : ∃ U, s.uses.length = U := ⟨_, rfl⟩
        rw [hU] at HI1 HI2 d1 z2
        have HM := hide hm
        clear hcs hs ht hU HI HJ y1 hm h0
        obtain ⟨B, hle⟩ : ∃ B, (Op.bytesLess s.name.toList t.name.toList || s.name.toList == t.name.toList) = B := ⟨_, rfl⟩
        have HLE : Hid (leN s.name t.name = B) := hide hle
        by_cases hu : U ≤ 4
        · have HI3 := hide (unhide HI2 hu)
          have hg1 : decide (4 < U) = false := decide_eq_false (by omega)
          have hg2 : decide ((4 : Int) < (U : Int)) = false := decide_eq_false (by omega)
          clear HI1 HI2
          cases B with
          | true =>
            have HR := hide (unhide HJ1 (unhide HLE))
            clear HJ1 HJ2
            go_wp2
            go_quiet (fail)
            go_wp2
            go_ret
            exact ⟨ret_bool (unhide HR).symm, (by first | exact below_drewN (unhide HB) _ | exact (unhide HB).drew)⟩
          | false =>
            have HJ3 := hide (unhide HJ2 (unhide HLE))
            clear HJ1 HJ2
            go_wp2
            go_quiet (fail)
            go_wp2
            go_roundw
            case rel => exact ⟨k + 1, by omega, by go_num, HI3, HJ3, hide (by first | exact below_drewN (unhide HB) _ | exact (unhide HB).drew)⟩
            case measure => simp [intOf] <;> omega
        · have HR := hide (unhide HI1 hu)
          have hg1 : decide (4 < U) = true := decide_eq_true (by omega)
          have hg2 : decide ((4 : Int) < (U : Int)) = true := decide_eq_true (by omega)
          clear HI1 HI2 HJ1 HJ2
          cases B with
          | true =>
            go_wp2
            go_quiet (fail)
            go_wp2
            go_ret
            exact ⟨ret_bool (unhide HR).symm, (by first | exact below_drewN (unhide HB) _ | exact (unhide HB).drew)⟩
          | false =>
            go_wp2
            go_quiet (fail)
            go_wp2
            go_ret
            exact ⟨ret_bool (unhide HR).symm, (by first | exact below_drewN (unhide HB) _ | exact (unhide HB).drew)⟩
    · have HR : Hid (graphB l = true) := hide (graphB_yes ⟨unhide H8, fun j hj => unhide HI j hj (by omega), fun j hj => unhide HJ j hj (by omega)⟩)
      go_wp2
      go_ret
      exact ⟨ret_bool (unhide HR).symm, unhide HB⟩
end Go.Proofs.Ytgdeehldpmfpgaa
