/- The walk of slices.Equal at lines. Conditions: the rows can be read. -/
import Derived.Test.YtifcfjjlgehopaaFh
namespace Go.Proofs.Ytifcfjjlgehopaa
open Go.RowKit Go.PlainAid

def allB : List TS → List TS → Bool
  | [], [] => true
  | s :: r, t :: q => lineB s t && allB r q
  | _, _ => false
theorem allB_len : ∀ {l m : List TS}, l.length ≠ m.length → allB l m = false
  | [], [], h => absurd rfl h
  | [], _ :: _, _ => rfl
  | _ :: _, [], _ => rfl
  | s :: r, t :: q, h => by rw [allB, allB_len (fun e => h (by simp [e])), Bool.and_false]
theorem allB_no : ∀ {l m : List TS} {k : Nat} (h1 : k < l.length) (h2 : k < m.length), lineB l[k] m[k] = false → allB l m = false
  | s :: r, t :: q, 0, _, _, h => by rw [allB]; simp at h; rw [h]; rfl
  | s :: r, t :: q, k + 1, h1, h2, h => by rw [allB, allB_no (k := k) (by simpa using h1) (by simpa using h2) (by simpa using h), Bool.and_false]
theorem allB_yes : ∀ {l m : List TS}, l.length = m.length → (∀ k (h1 : k < l.length) (h2 : k < m.length), lineB l[k] m[k] = true) → allB l m = true
  | [], [], _, _ => rfl
  | s :: r, t :: q, hl, h => by
    rw [allB, show lineB s t = true from h 0 (by simp) (by simp), allB_yes (by simpa using hl) (fun k h1 h2 => h (k + 1) (by simpa using h1) (by simpa using h2))]
    rfl
  | [], _ :: _, hl, _ => by simp at hl
  | _ :: _, [], hl, _ => by simp at hl

set_option maxHeartbeats 2000000 in
theorem equalLines_any (a a2 : Option Addr) (cap cap2 : Nat) (l m : List TS) (w : World) (h : IsLines w a l) (h2 : IsLines w a2 m) (hl : l.length ≤ maxLen) :
    Calls Try.prog 23 #[.slice a l.length cap, .slice a2 m.length cap2] w fun r w' => r = .returned (.bool (allB l m)) ∧ Below w.heap.size w w' := by
  unfold maxLen at hl
  have heq := eqLine
  have hg : Try.prog.eqGuardType Try.prog.depth 55 = false := by kernel_rfl
  have HW := hide h
  have HV := hide h2
  clear h h2
  by_cases hlm : l.length = m.length
  · have hq : ((l.length : Int) != (m.length : Int)) = false := by simp [hlm]
    have HLM := hide hlm
    clear hlm
    go_enter Try.func23, Try.ntmps23
    go_wp2
    go_loopw [5, 13] (fun _ i wr => ∃ k : Nat, k ≤ l.length ∧ i = .int .i64 k ∧ Hid (Below w.heap.size w wr) ∧ Hid (∀ j (h1 : j < l.length) (h2 : j < m.length), j < k → lineB l[j] m[j] = true)) (fun _ i _ => l.length - (intOf i).toNat)
    case atStart => exact ⟨0, Nat.zero_le _, rfl, hide (Below.refl _ _), hide (fun j _ _ hj => absurd hj (Nat.not_lt_zero _))⟩
    case round =>
      obtain ⟨k, hk, rfl, HB, HI⟩ := hrel
      by_cases hp : k < l.length
      · have hp2 : k < m.length := by have := unhide HLM; omega
        rcases unhide HW with h | ⟨g, rfl, hgl, hc⟩
        · rw [h] at hp; simp at hp
        rcases unhide HV with h | ⟨g2, rfl, hgl2, hc2⟩
        · rw [h] at hp2; simp at hp2
        have x0 := ((unhide HB).cell (p := ⟨g, k * 6 + 0, none⟩) hgl).trans (hc k hp 0 (by omega))
        have x1 := ((unhide HB).cell (p := ⟨g, k * 6 + 1, none⟩) hgl).trans (hc k hp 1 (by omega))
        have x2 := ((unhide HB).cell (p := ⟨g, k * 6 + 2, none⟩) hgl).trans (hc k hp 2 (by omega))
        have x3 := ((unhide HB).cell (p := ⟨g, k * 6 + 3, none⟩) hgl).trans (hc k hp 3 (by omega))
        have x4 := ((unhide HB).cell (p := ⟨g, k * 6 + 4, none⟩) hgl).trans (hc k hp 4 (by omega))
        have x5 := ((unhide HB).cell (p := ⟨g, k * 6 + 5, none⟩) hgl).trans (hc k hp 5 (by omega))
        have y0 := ((unhide HB).cell (p := ⟨g2, k * 6 + 0, none⟩) hgl2).trans (hc2 k hp2 0 (by omega))
        have y1 := ((unhide HB).cell (p := ⟨g2, k * 6 + 1, none⟩) hgl2).trans (hc2 k hp2 1 (by omega))
        have y2 := ((unhide HB).cell (p := ⟨g2, k * 6 + 2, none⟩) hgl2).trans (hc2 k hp2 2 (by omega))
        have y3 := ((unhide HB).cell (p := ⟨g2, k * 6 + 3, none⟩) hgl2).trans (hc2 k hp2 3 (by omega))
        have y4 := ((unhide HB).cell (p := ⟨g2, k * 6 + 4, none⟩) hgl2).trans (hc2 k hp2 4 (by omega))
        have y5 := ((unhide HB).cell (p := ⟨g2, k * 6 + 5, none⟩) hgl2).trans (hc2 k hp2 5 (by omega))
        have HN := hide (allB_no (l := l) (m := m) hp hp2)
        have HY := hide (fun (h : lineB (l[k]'hp) (m[k]'hp2) = true) (j : Nat) (h1 : j < l.length) (h2 : j < m.length) (hjk : j < k + 1) => show lineB l[j] m[j] = true from by
          by_cases e : j = k
          · subst e; exact h
          · exact unhide HI j h1 h2 (by omega))
        obtain ⟨s, hs⟩ : ∃ s, l[k]'hp = s := ⟨_, rfl⟩
        obtain ⟨t, ht⟩ : ∃ t, m[k]'hp2 = t := ⟨_, rfl⟩
        rw [hs] at x0 x1 x2 x3 x4 x5 HN HY
        rw [ht] at y0 y1 y2 y3 y4 y5 HN HY
        simp only [lineC, List.getElem?_cons_zero, List.getElem?_cons_succ, Nat.add_zero] at x0 x1 x2 x3 x4 x5 y0 y1 y2 y3 y4 y5
        obtain ⟨B, hB⟩ : ∃ B, lineB s t = B := ⟨_, rfl⟩
        rw [hB] at HN HY
        unfold lineB at hB
        generalize ar s 0 = a0 at x1 hB
        generalize ar s 1 = a1 at x2 hB
        generalize ar s 2 = a2 at x3 hB
        generalize ar s 3 = a3 at x4 hB
        generalize ar t 0 = b0 at y1 hB
        generalize ar t 1 = b1 at y2 hB
        generalize ar t 2 = b2 at y3 hB
        generalize ar t 3 = b3 at y4 hB
        clear hc hc2 hs ht HI
        cases B with
        | true =>
          have HI2 := hide (unhide HY rfl)
          go_wp2
          go_quiet (fail)
          clear hB x0 x1 x2 x3 x4 x5 y0 y1 y2 y3 y4 y5
          go_wp2
          go_roundw
          case rel => exact ⟨k + 1, by omega, by go_num, hide (below_drewN (unhide HB) _), HI2⟩
          case measure => simp [intOf]; omega
        | false =>
          have HR := hide (unhide HN rfl)
          go_wp2
          go_quiet (fail)
          clear hB x0 x1 x2 x3 x4 x5 y0 y1 y2 y3 y4 y5
          go_wp2
          go_ret
          exact ⟨ret_bool (unhide HR).symm, below_drewN (unhide HB) _⟩
      · have HR : Hid (allB l m = true) := hide (allB_yes (unhide HLM) (fun j h1 h2 => unhide HI j h1 h2 (by omega)))
        clear heq hg
        go_wp2
        go_ret
        exact ⟨ret_bool (unhide HR).symm, unhide HB⟩
  · have HR : Hid (allB l m = false) := hide (allB_len hlm)
    have hq : ((l.length : Int) != (m.length : Int)) = true := by simp; omega
    go_enter Try.func23, Try.ntmps23
    go_wp2
    go_ret
    exact ⟨ret_bool (unhide HR).symm, Below.refl _ _⟩
end Go.Proofs.Ytifcfjjlgehopaa
