/- The walks of impl.linkNamed, and of slices.IndexFunc and slices.ContainsFunc at parts. Conditions: the parts can be read. -/
import Derived.Test.YtakcpfmpaopfdaaLif
namespace Go.Proofs.Ytakcpfmpaopfdaa
open Go.RowKit Go.PlainAid

theorem below_newL (w : World) (o : Obj) : Below w.heap.size w (w.alloc o) := (Below.refl _ _).alloc (Nat.le_refl _) _
set_option maxHeartbeats 1000000 in
theorem namedC_any (lo B : Nat) (v : Value) (x : TP) (md : ByteArray) (w : World) (hF : IsPa w lo w.heap.size v x) (hc : w.cell? ⟨B, 0, none⟩ = some (.string md)) (hB : B < w.heap.size) :
    Calls Try.prog 25 #[v, .pointer (some ⟨B, 0, none⟩)] w fun r w' => r = .returned (.bool (isP md x)) ∧ Below w.heap.size w w' := by
  obtain ⟨m, obj⟩ := x
  obtain ⟨aa, ca, ba, cb, rfl, _, _⟩ := hF
  dsimp only
  have HX : Hid (isP md ⟨m, obj⟩ = (m.toList == md.toList)) := hide rfl
  generalize isP md ⟨m, obj⟩ = R at HX ⊢
  have hBne : B ≠ w.heap.size := by omega
  cases he : (m.toList == md.toList)
  all_goals
    have HR := hide ((unhide HX).trans he)
    clear HX
    go_enter Try.func25, Try.ntmps25
    go_wp2
    go_ret
    exact ⟨ret_bool (unhide HR).symm, (Below.refl _ _).alloc (Nat.le_refl _) _⟩

set_option maxHeartbeats 2000000 in
theorem indexP_any (lo B : Nat) (a : Option Addr) (cap : Nat) (l : List TP) (md : ByteArray) (w : World) (h : Parts w lo a l) (hl : l.length ≤ maxLen) (hc : w.cell? ⟨B, 0, none⟩ = some (.string md)) (hB : B < w.heap.size) :
    Calls Try.prog 32 #[.slice a l.length cap, .func (.func 25) #[] #[.pointer (some ⟨B, 0, none⟩)]] w fun r w' => r = .returned (.int .i64 (ixI (l.findIdx? (isP md)))) ∧ Below w.heap.size w w' := by
  unfold maxLen at hl
  have HW := hide h
  have HC := hide hc
  clear h hc
  go_enter Try.func32, Try.ntmps32
  go_wp2
  go_loopw [5, 8] (fun _ i wr => ∃ k : Nat, k ≤ l.length ∧ i = .int .i64 k ∧ Hid (∀ j (hj : j < l.length), j < k → isP md l[j] = false) ∧ Hid (Below w.heap.size w wr)) (fun _ i _ => l.length - (intOf i).toNat)
  case atStart => exact ⟨0, Nat.zero_le _, rfl, hide (fun j _ hj => absurd hj (Nat.not_lt_zero _)), hide (Below.refl _ _)⟩
  case round =>
    obtain ⟨k, hk, rfl, HN, HB⟩ := hrel
    by_cases hp : k < l.length
    · rcases (unhide HW).kept (unhide HB) (unhide HB).size with hq | ⟨b, off, rfl, hbl, hbn, hcs⟩
      · rw [hq] at hp; simp at hp
      obtain ⟨c0, c1, c2, d0, d1, d2, hr⟩ := hcs k hp
      have HY := hide (fun (h2 : isP md (l[k]'hp) = true) => first_at hp (unhide HN) h2)
      have HNN := hide (fun (h2 : isP md (l[k]'hp) = false) => no_more hp (unhide HN) h2)
      have HCL := hide (namedC_any lo B _ _ md wr hr (((unhide HB).cell (p := ⟨B, 0, none⟩) hB).trans (unhide HC)) (Nat.lt_of_lt_of_le hB (unhide HB).size))
      generalize isP md (l[k]'hp) = R at HY HNN HCL
      clear hcs hr
      go_wp2_with fail
      refine (unhide HCL).mono ?_
      rintro r w2 ⟨rfl, hb2⟩
      have HB2 := hide ((unhide HB).trans (hb2.mono (unhide HB).size))
      clear hb2 HCL d0 d1 d2
      cases R with
      | true =>
        have HE := hide (unhide HY rfl)
        go_wp2
        go_ret
        exact ⟨by rw [unhide HE]; rfl, unhide HB2⟩
      | false =>
        have HE := hide (unhide HNN rfl)
        go_wp2
        go_roundw
        case rel => exact ⟨k + 1, by omega, by go_num, HE, HB2⟩
        case measure => simp [intOf]; omega
    · have HE := hide (first_none (l := l) (p := isP md) (fun j hj => unhide HN j hj (by omega)))
      go_wp2
      go_ret
      exact ⟨by rw [unhide HE]; rfl, unhide HB⟩

theorem ixI_ge (l : List TP) (md : ByteArray) : decide (0 ≤ ixI (l.findIdx? (isP md))) = l.any (isP md) := by
  cases h : l.findIdx? (isP md) with
  | none =>
    have : l.any (isP md) = false := by
      rw [List.findIdx?_eq_none_iff] at h
      rw [Bool.eq_false_iff, Ne, List.any_eq_true]
      rintro ⟨x, hx, h2⟩
      rw [h x hx] at h2; cases h2
    rw [this]; rfl
  | some k =>
    have : l.any (isP md) = true := by
      rw [List.findIdx?_eq_some_iff_getElem] at h
      obtain ⟨h1, h2, _⟩ := h
      rw [List.any_eq_true]
      exact ⟨_, List.getElem_mem h1, h2⟩
    rw [this]; exact decide_eq_true (by unfold ixI; simp)
set_option maxHeartbeats 1000000 in
theorem containsP_any (lo B : Nat) (a : Option Addr) (cap : Nat) (l : List TP) (md : ByteArray) (w : World) (h : Parts w lo a l) (hl : l.length ≤ maxLen) (hc : w.cell? ⟨B, 0, none⟩ = some (.string md)) (hB : B < w.heap.size) :
    Calls Try.prog 24 #[.slice a l.length cap, .func (.func 25) #[] #[.pointer (some ⟨B, 0, none⟩)]] w fun r w' => r = .returned (.bool (l.any (isP md))) ∧ Below w.heap.size w w' := by
  have H := hide (indexP_any lo B a cap l md w h hl hc hB)
  have HI := hide (ixI_ge l md)
  clear h hl hc hB
  go_enter Try.func24, Try.ntmps24
  go_wp2_with fail
  refine (unhide H).mono ?_
  rintro r w2 ⟨rfl, hb⟩
  generalize ixI (l.findIdx? (isP md)) = i at HI ⊢
  go_wp2
  go_ret
  exact ⟨ret_bool (unhide HI), hb⟩
set_option maxHeartbeats 1000000 in
theorem linkNamed_any (lo : Nat) (a : Option Addr) (cap : Nat) (l : List TP) (md : ByteArray) (w : World) (h : Parts w lo a l) (hl : l.length ≤ maxLen) :
    Calls Try.prog 18 #[.slice a l.length cap, .string md] w fun r w' => r = .returned (.bool (l.any (isP md))) ∧ Below w.heap.size w w' := by
  have HI := hide (containsP_any lo w.heap.size a cap l md (w.alloc (.cells #[.string md] 9)) (h.kept (below_newL _ _) (by simp)) hl (alloc_cell _ _ _ _) (by simp))
  clear h hl
  go_enter Try.func18, Try.ntmps18
  go_wp2_with fail
  refine (unhide HI).mono ?_
  rintro r w2 ⟨rfl, hb2⟩
  have HB := hide ((below_newL w (.cells #[.string md] 9)).trans (hb2.mono (by simp)))
  clear hb2
  go_wp2
  go_ret
  exact ⟨rfl, unhide HB⟩
end Go.Proofs.Ytakcpfmpaopfdaa
