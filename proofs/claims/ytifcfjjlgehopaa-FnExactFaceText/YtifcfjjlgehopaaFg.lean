/- What a face is; the walk of spec.FaceOk. Conditions: the face can be read. -/
import Derived.Test.YtifcfjjlgehopaaFf
namespace Go.Proofs.Ytifcfjjlgehopaa
open Go.RowKit Go.PlainAid

def leN (a b : ByteArray) : Bool := Op.bytesLess a.toList b.toList || a.toList == b.toList
/-- A face: at most eight lines, each of them right, ascending. -/
def Good (l : List TS) : Prop := l.length ≤ 8 ∧ (∀ j (hj : j < l.length), l[j].ok = true) ∧ ∀ j (hj : j + 1 < l.length), leN l[j + 1].name l[j].name = false
noncomputable def faceB (l : List TS) : Bool := @decide (Good l) (Classical.propDecidable _)
theorem faceB_yes {l : List TS} (h : Good l) : faceB l = true := by unfold faceB; exact @decide_eq_true _ (Classical.propDecidable _) h
theorem faceB_no {l : List TS} (h : ¬ Good l) : faceB l = false := by unfold faceB; exact @decide_eq_false _ (Classical.propDecidable _) h
/-- Two neighbours' cells of a row of signatures. -/
theorem IsSig.at {w : World} {lo n : Nat} {c0 c1 c2 : Value} {s : TS} (h : IsSig w lo n (.agg #[c0, c1, c2]) s) : c0 = .string s.name := by
  obtain ⟨aa, ca, hv, hz, ha⟩ := h
  simp only [Value.agg.injEq, Array.mk.injEq, List.cons.injEq] at hv
  exact hv.1

set_option maxHeartbeats 4000000 in
theorem FaceOkS_any (lo : Nat) (a : Option Addr) (cap : Nat) (l : List TS) (w : World) (hk : IsSigs (IsSig w lo w.heap.size) w lo w.heap.size a l) (hl : l.length ≤ maxLen) :
    Calls Try.prog 7 #[.slice a l.length cap] w fun r w' => r = .returned (.bool (faceB l)) ∧ Below w.heap.size w w' := by
  unfold maxLen at hl
  have HK := hide hk
  clear hk
  by_cases h8 : 8 < l.length
  · have HR : Hid (faceB l = false) := hide (faceB_no (fun h => by have := h.1; omega))
    go_enter Try.func7, Try.ntmps7
    go_wp2
    go_ret
    exact ⟨ret_bool (unhide HR).symm, Below.refl _ _⟩
  have H8 : Hid (l.length ≤ 8) := hide (by omega)
  go_enter Try.func7, Try.ntmps7
  go_wp2
  go_loopw [3] (fun i wr => ∃ k : Nat, k ≤ l.length ∧ i = .int .i64 k ∧ Hid (∀ j (hj : j < l.length), j < k → l[j].ok = true) ∧ Hid (∀ j (hj : j + 1 < l.length), j + 1 < k → leN l[j + 1].name l[j].name = false) ∧ Hid (Below w.heap.size w wr)) (fun i _ => l.length - (intOf i).toNat)
  case atStart => exact ⟨0, Nat.zero_le _, rfl, hide (fun j _ hj => absurd hj (Nat.not_lt_zero _)), hide (fun j _ hj => absurd hj (Nat.not_lt_zero _)), hide (Below.refl _ _)⟩
  case round =>
    obtain ⟨k, hk, rfl, HI, HJ, HB⟩ := hrel
    by_cases hp : k < l.length
    · rcases (unhide HK).kept (unhide HB) (unhide HB).size with hq | ⟨b, off, rfl, hbl, hbn, hcs⟩
      · rw [hq] at hp; simp at hp
      obtain ⟨c0, c1, c2, d0, d1, d2, hr⟩ := hcs k hp
      have e0 := hr.at
      subst e0
      have HI1 := hide (fun (h : (l[k]'hp).ok = false) => faceB_no (l := l) (fun g => by have := g.2.1 k hp; rw [h] at this; cases this))
      have HI2 := hide (fun (h : (l[k]'hp).ok = true) (j : Nat) (hj : j < l.length) (hjk : j < k + 1) => show l[j].ok = true from by
        by_cases e : j = k
        · subst e; exact h
        · exact unhide HI j hj (by omega))
      have HQ := hide (Calls.bel (fun (W : World) (hb : Below wr.heap.size wr W) => l3Sig_any lo _ _ W (hr.kept hb hb.size)))
      obtain ⟨B, hB⟩ : ∃ B, (l[k]'hp).ok = B := ⟨_, rfl⟩
      rw [hB] at HQ HI1 HI2
      clear hB
      have z0 := Bel.cell (a := ⟨b, off + k * 3, none⟩) hbn d0
      have z2 := Bel.cell (a := ⟨b, off + k * 3 + 1, none⟩) hbn d1
      have z3 := Bel.cell (a := ⟨b, off + k * 3 + 2, none⟩) hbn d2
      cases B with
      | false =>
        have HR := hide (unhide HI1 rfl)
        obtain ⟨s, hs⟩ : ∃ s, l[k]'hp = s := ⟨_, rfl⟩
        rw [hs] at HQ d0 z0
        clear hcs hr hs HI HJ
        go_wp2
        have hI : Nonempty (Bel wr) := ⟨⟨wr, Below.refl _ _⟩⟩
        refine wp_region_bel (by kernel_rfl) (by kernel_rfl) ?_
        repeat (refine WQ.step (fun K hK => ?_); go_simp; first | (refine hK _ ?_; clear hK K) | (refine ⟨_, fun p => unhide HQ p, hK _ ?_⟩; clear hK K))
        refine WQ.nil ?_
        rintro _ ⟨⟨w2, hb2⟩, rfl⟩
        have HB2 := hide ((unhide HB).trans (hb2.mono (unhide HB).size))
        clear hb2 HB d0 d1 d2 z0 z2 z3
        go_wp2
        go_ret
        exact ⟨ret_bool (unhide HR).symm, unhide HB2⟩
      | true =>
        have HI3 := hide (unhide HI2 rfl)
        by_cases h0 : k = 0
        · subst h0
          have HJ2 : Hid (∀ j (hj : j + 1 < l.length), j + 1 < 0 + 1 → leN l[j + 1].name l[j].name = false) := hide (fun j hj h => by omega)
          obtain ⟨s, hs⟩ : ∃ s, l[0]'hp = s := ⟨_, rfl⟩
          rw [hs] at HQ d0 z0
          clear hcs hr hs HI HJ
          simp only [Nat.zero_mul, Nat.add_zero, Int.natCast_zero] at d0 d1 d2 z0 z2 z3 ⊢
          go_wp2
          have hI : Nonempty (Bel wr) := ⟨⟨wr, Below.refl _ _⟩⟩
          refine wp_region_bel (by kernel_rfl) (by kernel_rfl) ?_
          repeat (refine WQ.step (fun K hK => ?_); go_simp; first | (refine hK _ ?_; clear hK K) | (refine ⟨_, fun p => unhide HQ p, hK _ ?_⟩; clear hK K))
          refine WQ.nil ?_
          rintro _ ⟨⟨w2, hb2⟩, rfl⟩
          have HB2 := hide ((unhide HB).trans (hb2.mono (unhide HB).size))
          clear hb2 HB d0 d1 d2 z0 z2 z3
          go_wp2
          go_roundw
          case rel => exact ⟨1, by omega, by go_num, HI3, HJ2, HB2⟩
          case measure => simp [intOf] <;> omega
        · obtain ⟨m, hm⟩ : ∃ m, k = m + 1 := ⟨k - 1, by omega⟩
          have hpm : m < l.length := by omega
          obtain ⟨x0, x1, x2, y0, y1, y2, hr'⟩ := hcs m hpm
          have e0 := hr'.at
          subst e0
          have HJ1 := hide (fun (h : leN (l[k]'hp).name (l[m]'hpm).name = true) => faceB_no (l := l) (fun g => by subst hm; have := g.2.2 m hp; rw [h] at this; cases this))
          have HJ2 := hide (fun (h : leN (l[k]'hp).name (l[m]'hpm).name = false) (j : Nat) (hj : j + 1 < l.length) (hjk : j + 1 < k + 1) => show leN l[j + 1].name l[j].name = false from by
            subst hm
            by_cases e : j = m
            · subst e; exact h
            · exact unhide HJ j hj (by omega))
          have hw1 : IntKind.i64.wrap (m : Int) = (m : Int) := by rw [IntKind.wrap_i64]; omega
          have hw2 : (k : Int) - 1 = (m : Int) := by omega
          have hkp : decide ((0 : Int) < (k : Int)) = true := decide_eq_true (by omega)
          have hkq : 0 < k := by omega
          have hkd : decide (0 < k) = true := decide_eq_true hkq
          obtain ⟨s, hs⟩ : ∃ s, l[k]'hp = s := ⟨_, rfl⟩
          rw [hs] at HQ HJ1 HJ2 d0 z0
          obtain ⟨t, ht⟩ : ∃ t, (l[m]'hpm) = t := ⟨_, rfl⟩
          rw [ht] at HJ1 HJ2 y0
          have HM := hide hm
          clear hcs hr hr' hs ht HI HJ y1 y2 hm h0
          have z1 := Bel.cell (a := ⟨b, off + m * 3, none⟩) hbn y0
          obtain ⟨B, hle⟩ : ∃ B, (Op.bytesLess s.name.toList t.name.toList || s.name.toList == t.name.toList) = B := ⟨_, rfl⟩
          have HLE : Hid (leN s.name t.name = B) := hide hle
          cases B with
          | true =>
            have HR := hide (unhide HJ1 (unhide HLE))
            go_wp2
            have hI : Nonempty (Bel wr) := ⟨⟨wr, Below.refl _ _⟩⟩
            refine wp_region_bel (by kernel_rfl) (by kernel_rfl) ?_
            repeat (refine WQ.step (fun K hK => ?_); go_simp; first | (refine hK _ ?_; clear hK K) | (refine ⟨_, fun p => unhide HQ p, hK _ ?_⟩; clear hK K))
            refine WQ.nil ?_
            rintro _ ⟨⟨w2, hb2⟩, rfl⟩
            have HB2 := hide ((unhide HB).trans (hb2.mono (unhide HB).size))
            clear hb2 HB d0 d1 d2 z0 z1 z2 z3 y0 hle hw1 hw2 hkp
            go_wp2
            go_ret
            exact ⟨ret_bool (unhide HR).symm, unhide HB2⟩
          | false =>
            have HJ3 := hide (unhide HJ2 (unhide HLE))
            go_wp2
            have hI : Nonempty (Bel wr) := ⟨⟨wr, Below.refl _ _⟩⟩
            refine wp_region_bel (by kernel_rfl) (by kernel_rfl) ?_
            repeat (refine WQ.step (fun K hK => ?_); go_simp; first | (refine hK _ ?_; clear hK K) | (refine ⟨_, fun p => unhide HQ p, hK _ ?_⟩; clear hK K))
            refine WQ.nil ?_
            rintro _ ⟨⟨w2, hb2⟩, rfl⟩
            have HB2 := hide ((unhide HB).trans (hb2.mono (unhide HB).size))
            clear hb2 HB d0 d1 d2 z0 z1 z2 z3 y0 hle hw1 hw2 hkp
            go_wp2
            go_roundw
            case rel => exact ⟨k + 1, by omega, by go_num, HI3, HJ3, HB2⟩
            case measure => simp [intOf] <;> omega
    · have HR : Hid (faceB l = true) := hide (faceB_yes ⟨unhide H8, fun j hj => unhide HI j hj (by omega), fun j hj => unhide HJ j hj (by omega)⟩)
      go_wp2
      go_ret
      exact ⟨ret_bool (unhide HR).symm, unhide HB⟩
end Go.Proofs.Ytifcfjjlgehopaa
