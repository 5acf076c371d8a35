/- The walks of slices.Index and slices.Contains at words, of slices.IndexFunc at faces and of impl.typeFacePlace. Conditions: the rows can be read. -/
import Derived.Test.YtkiaidjkhhljhaaJc
import Derived.Test.YtkiaidjkhhljhaaUa
namespace Go.Proofs.Ytkiaidjkhhljhaa
open Go.RowKit Go.PlainAid

def hasB (pre : List ByteArray) (x : ByteArray) : Bool := pre.any (fun y => y.toList == x.toList)
theorem hasB_snoc (pre : List ByteArray) (y x : ByteArray) : hasB (pre ++ [y]) x = (hasB pre x || (y.toList == x.toList)) := by
  unfold hasB; rw [List.any_append]; simp
theorem has_take (l : List ByteArray) (x : ByteArray) (j : Nat) (h : j < l.length) : hasB (l.take (j + 1)) x = (hasB (l.take j) x || (l[j].toList == x.toList)) := by
  rw [List.take_succ_eq_append_getElem h, hasB_snoc]
theorem has_more (l : List ByteArray) (x : ByteArray) (j k : Nat) (hk : j < k) (h : j < l.length) (he : (l[j].toList == x.toList) = true) : hasB (l.take k) x = true := by
  unfold hasB
  rw [List.any_eq_true]
  exact ⟨l[j], by rw [List.mem_take_iff_getElem]; exact ⟨j, by omega, rfl⟩, he⟩

set_option maxHeartbeats 1000000 in
theorem index_any (lo : Nat) (a : Option Addr) (cap : Nat) (ws : List ByteArray) (x : ByteArray) (w : World) (h : IsWds w lo w.heap.size a ws) (hl : ws.length ≤ maxLen) :
    Calls Try.prog 56 #[.slice a ws.length cap, .string x] w fun r w' => (∃ i : Int, r = .returned (.int .i64 i) ∧ decide (0 ≤ i) = hasB ws x) ∧ Below w.heap.size w w' := by
  unfold maxLen at hl
  have HW := hide h
  clear h
  go_enter Try.func56, Try.ntmps56
  go_wp2
  go_loop [8] (fun i => ∃ k : Nat, k ≤ ws.length ∧ i = .int .i64 k ∧ Hid (hasB (ws.take k) x = false)) (fun i => ws.length - (intOf i).toNat)
  case atStart => exact ⟨0, Nat.zero_le _, rfl, hide rfl⟩
  case round =>
    obtain ⟨k, hk, rfl, HN⟩ := hrel
    by_cases hp : k < ws.length
    · rcases (unhide HW) with hq | ⟨b, off, rfl, hbl, hbn, hc⟩
      · rw [hq] at hp; simp at hp
      have hck := hc k hp
      have hst := has_take ws x k hp
      have hmo := has_more ws x k ws.length hp hp
      rw [List.take_of_length_le (Nat.le_refl _)] at hmo
      obtain ⟨y, hy⟩ : ∃ y, ws[k]'hp = y := ⟨_, rfl⟩
      rw [hy] at hck hst hmo
      have sy : (y.toList == x.toList) = (x.toList == y.toList) := by rw [Bool.eq_iff_iff]; simp; exact eq_comm
      rw [sy] at hst hmo
      have HST := hide hst
      have HMO := hide hmo
      clear hst hmo hy hc sy
      cases he : (x.toList == y.toList) with
      | true =>
        have HF := hide (unhide HMO he)
        go_wp2
        go_ret
        exact ⟨⟨_, rfl, by rw [unhide HF]; exact decide_eq_true (by omega)⟩, Below.refl _ _⟩
      | false =>
        have HH : Hid (hasB (ws.take (k + 1)) x = false) := hide (by rw [unhide HST, unhide HN, he]; rfl)
        go_wp2
        go_round
        case rel => exact ⟨k + 1, by omega, by go_num, HH⟩
        case measure => simp [intOf]; omega
    · have HF : Hid (hasB ws x = false) := hide (by
        have := unhide HN
        rw [List.take_of_length_le (by omega)] at this
        exact this)
      go_wp2
      go_ret
      exact ⟨⟨_, rfl, by rw [unhide HF]; rfl⟩, Below.refl _ _⟩
set_option maxHeartbeats 1000000 in
theorem contains_any (lo : Nat) (a : Option Addr) (cap : Nat) (ws : List ByteArray) (x : ByteArray) (w : World) (h : IsWds w lo w.heap.size a ws) (hl : ws.length ≤ maxLen) :
    Calls Try.prog 36 #[.slice a ws.length cap, .string x] w fun r w' => r = .returned (.bool (hasB ws x)) ∧ Below w.heap.size w w' := by
  have H := hide (index_any lo a cap ws x w h hl)
  clear h hl
  go_enter Try.func36, Try.ntmps36
  go_wp2_with fail
  refine (unhide H).mono ?_
  rintro r w2 ⟨⟨i, rfl, hi⟩, hb⟩
  have HI := hide hi
  clear hi
  go_wp2
  go_ret
  exact ⟨ret_bool (unhide HI), hb⟩

theorem below_newY (w : World) (o : Obj) : Below w.heap.size w (w.alloc o) := (Below.refl _ _).alloc (Nat.le_refl _) _
/-- Whether a face is that of a module. -/
def isMod (md : ByteArray) (f : TY) : Bool := f.mod.toList == md.toList
/-- The place of the first face of a module, or -1. -/
def placeY (l : List TY) (md : ByteArray) : Int := match l.findIdx? (isMod md) with | some k => (k : Int) | none => -1
theorem placeY_at {l : List TY} {md : ByteArray} {k : Nat} (hk : k < l.length) (hno : ∀ j (hj : j < l.length), j < k → isMod md l[j] = false) (he : isMod md l[k] = true) : placeY l md = (k : Int) := by
  have : l.findIdx? (isMod md) = some k := by
    rw [List.findIdx?_eq_some_iff_getElem]
    exact ⟨hk, he, fun j hj => by rw [hno j (by omega) hj]; simp⟩
  unfold placeY
  rw [this]
theorem placeY_none {l : List TY} {md : ByteArray} (hno : ∀ j (hj : j < l.length), isMod md l[j] = false) : placeY l md = -1 := by
  have : l.findIdx? (isMod md) = none := by
    rw [List.findIdx?_eq_none_iff]
    intro x hx
    obtain ⟨j, hj, rfl⟩ := List.getElem_of_mem hx
    exact hno j hj
  unfold placeY
  rw [this]

set_option maxHeartbeats 1000000 in
theorem placeC_any (lo B : Nat) (v : Value) (f : TY) (md : ByteArray) (w : World) (hF : IsFace w lo w.heap.size v f) (hc : w.cell? ⟨B, 0, none⟩ = some (.string md)) (hB : B < w.heap.size) :
    Calls Try.prog 55 #[v, .pointer (some ⟨B, 0, none⟩)] w fun r w' => r = .returned (.bool (isMod md f)) ∧ Below w.heap.size w w' := by
  obtain ⟨m, sigs⟩ := f
  obtain ⟨aa, ca, rfl, _, _⟩ := hF
  dsimp only
  have HX : Hid (isMod md ⟨m, sigs⟩ = (m.toList == md.toList)) := hide rfl
  generalize isMod md ⟨m, sigs⟩ = R at HX ⊢
  have hBne : B ≠ w.heap.size := by omega
  cases he : (m.toList == md.toList)
  all_goals
    have HR := hide ((unhide HX).trans he)
    clear HX
    go_enter Try.func55, Try.ntmps55
    go_wp2
    go_ret
    exact ⟨ret_bool (unhide HR).symm, (Below.refl _ _).alloc (Nat.le_refl _) _⟩

set_option maxHeartbeats 2000000 in
theorem indexF_any (lo B : Nat) (a : Option Addr) (cap : Nat) (l : List TY) (md : ByteArray) (w : World) (h : IsFaces (IsFace w lo w.heap.size) w lo w.heap.size a l) (hl : l.length ≤ maxLen) (hc : w.cell? ⟨B, 0, none⟩ = some (.string md)) (hB : B < w.heap.size) :
    Calls Try.prog 54 #[.slice a l.length cap, .func (.func 55) #[] #[.pointer (some ⟨B, 0, none⟩)]] w fun r w' => r = .returned (.int .i64 (placeY l md)) ∧ Below w.heap.size w w' := by
  unfold maxLen at hl
  have HW := hide h
  have HC := hide hc
  clear h hc
  go_enter Try.func54, Try.ntmps54
  go_wp2
  go_loopw [5, 8] (fun _ i wr => ∃ k : Nat, k ≤ l.length ∧ i = .int .i64 k ∧ Hid (∀ j (hj : j < l.length), j < k → isMod md l[j] = false) ∧ Hid (Below w.heap.size w wr)) (fun _ i _ => l.length - (intOf i).toNat)
  case atStart => exact ⟨0, Nat.zero_le _, rfl, hide (fun j _ hj => absurd hj (Nat.not_lt_zero _)), hide (Below.refl _ _)⟩
  case round =>
    obtain ⟨k, hk, rfl, HN, HB⟩ := hrel
    by_cases hp : k < l.length
    · rcases (unhide HW).kept (unhide HB) (unhide HB).size with hq | ⟨b, off, rfl, hbl, hbn, hcs⟩
      · rw [hq] at hp; simp at hp
      obtain ⟨c0, c1, d0, d1, hr⟩ := hcs k hp
      have HY := hide (fun (h2 : isMod md (l[k]'hp) = true) => placeY_at hp (unhide HN) h2)
      have HNN : Hid (isMod md (l[k]'hp) = false → ∀ j (hj : j < l.length), j < k + 1 → isMod md l[j] = false) := hide (fun h2 j hj hjk => by
        by_cases e : j = k
        · subst e; exact h2
        · exact unhide HN j hj (by omega))
      have HCL := hide (placeC_any lo B _ _ md wr hr (((unhide HB).cell (p := ⟨B, 0, none⟩) hB).trans (unhide HC)) (Nat.lt_of_lt_of_le hB (unhide HB).size))
      generalize isMod md (l[k]'hp) = R at HY HNN HCL
      clear hcs hr
      go_wp2_with fail
      refine (unhide HCL).mono ?_
      rintro r w2 ⟨rfl, hb2⟩
      have HB2 := hide ((unhide HB).trans (hb2.mono (unhide HB).size))
      clear hb2 HCL d0 d1
      cases R with
      | true =>
        have HE := hide (unhide HY rfl)
        go_wp2
        go_ret
        exact ⟨ret_int (unhide HE).symm, unhide HB2⟩
      | false =>
        have HE := hide (unhide HNN rfl)
        go_wp2
        go_roundw
        case rel => exact ⟨k + 1, by omega, by go_num, HE, HB2⟩
        case measure => simp [intOf]; omega
    · have HE := hide (placeY_none (l := l) (md := md) (fun j hj => unhide HN j hj (by omega)))
      go_wp2
      go_ret
      exact ⟨ret_int (unhide HE).symm, unhide HB⟩

set_option maxHeartbeats 1000000 in
theorem facePlace_any (lo : Nat) (a : Option Addr) (cap : Nat) (l : List TY) (md : ByteArray) (w : World) (h : IsFaces (IsFace w lo w.heap.size) w lo w.heap.size a l) (hl : l.length ≤ maxLen) :
    Calls Try.prog 35 #[.slice a l.length cap, .string md] w fun r w' => r = .returned (.int .i64 (placeY l md)) ∧ Below w.heap.size w w' := by
  have HI := hide (indexF_any lo w.heap.size a cap l md (w.alloc (.cells #[.string md] 9)) (h.kept (below_newY _ _) (by simp)) hl (alloc_cell _ _ _ _) (by simp))
  clear h hl
  go_enter Try.func35, Try.ntmps35
  go_wp2_with fail
  refine (unhide HI).mono ?_
  rintro r w2 ⟨rfl, hb2⟩
  have HB := hide ((below_newY w (.cells #[.string md] 9)).trans (hb2.mono (by simp)))
  clear hb2
  go_wp2
  go_ret
  exact ⟨rfl, unhide HB⟩
end Go.Proofs.Ytkiaidjkhhljhaa
