/- Words in lists, and nodes whose uses are there: the walks of spec's l5Has, l5Ready and l5Uses. Conditions: all can be read. -/
import Derived.Test.YtgdeehldpmfpgaaQf
namespace Go.Proofs.Ytgdeehldpmfpgaa
open Go.RowKit Go.PlainAid

def hasW (ws : List ByteArray) (s : ByteArray) : Bool := ws.any (fun x => x.toList == s.toList)
/-- All that a node uses is in a list. -/
def readyB (n : TG) (done : List ByteArray) : Bool := n.uses.all (hasW done)
/-- A node uses one of some. -/
def usesB (n : TG) (names : List ByteArray) : Bool := n.uses.any (hasW names)

set_option maxHeartbeats 1000000 in
theorem l5Has_any (lo : Nat) (a : Option Addr) (cap : Nat) (ws : List ByteArray) (s : ByteArray) (w : World) (h : IsWds w lo w.heap.size a ws) (hl : ws.length ≤ maxLen) :
    Calls Try.prog 41 #[.slice a ws.length cap, .string s] w fun r w' => r = .returned (.bool (hasW ws s)) ∧ w = w' := by
  unfold maxLen at hl
  have HW := hide h
  clear h
  obtain ⟨R, hR⟩ : ∃ R, hasW ws s = R := ⟨_, rfl⟩
  rw [hR]
  have HR := hide hR
  clear hR
  go_enter Try.func41, Try.ntmps41
  go_wp2
  go_loop [5] (fun i => ∃ k : Nat, k ≤ ws.length ∧ i = .int .i64 k ∧ Hid (∀ j (hj : j < ws.length), j < k → (ws[j].toList == s.toList) = false)) (fun i => ws.length - (intOf i).toNat)
  case atStart => exact ⟨0, Nat.zero_le _, rfl, hide (fun j _ hj => absurd hj (Nat.not_lt_zero _))⟩
  case round =>
    obtain ⟨k, hk, rfl, HN⟩ := hrel
    by_cases hp : k < ws.length
    · rcases unhide HW with hq | ⟨b, off, rfl, hbl, hbn, hc⟩
      · rw [hq] at hp; simp at hp
      have hck := hc k hp
      have HNX : Hid (((ws[k]'hp).toList == s.toList) = false → ∀ j (hj : j < ws.length), j < k + 1 → (ws[j].toList == s.toList) = false) := hide (fun h2 j hj hjk => by
        by_cases e : j = k
        · subst e; exact h2
        · exact unhide HN j hj (by omega))
      have HFX : Hid (((ws[k]'hp).toList == s.toList) = true → R = true) := hide (fun h2 => by rw [← unhide HR]; exact List.any_eq_true.2 ⟨_, List.getElem_mem hp, h2⟩)
      obtain ⟨x, hx⟩ : ∃ x, ws[k]'hp = x := ⟨_, rfl⟩
      rw [hx] at hck HNX HFX
      clear hc hx
      cases he : (x.toList == s.toList) with
      | true =>
        have HE := hide (unhide HFX he)
        go_wp2
        go_ret
        exact ⟨ret_bool (unhide HE).symm, rfl⟩
      | false =>
        have HE := hide (unhide HNX he)
        go_wp2
        go_round
        case rel => exact ⟨k + 1, by omega, by go_num, HE⟩
        case measure => simp [intOf]; omega
    · have HE : Hid (R = false) := hide (by
        rw [← unhide HR]
        unfold hasW
        rw [List.any_eq_false]
        intro x hx
        obtain ⟨j, hj, rfl⟩ := List.getElem_of_mem hx
        rw [unhide HN j hj (by omega)]
        simp)
      go_wp2
      go_ret
      exact ⟨ret_bool (unhide HE).symm, rfl⟩

set_option maxHeartbeats 2000000 in
theorem l5Ready_any (lo lo2 : Nat) (v : Value) (n : TG) (a : Option Addr) (cap : Nat) (ws : List ByteArray) (w : World) (hn : IsGn w lo w.heap.size v n) (h : IsWds w lo2 w.heap.size a ws) (hl : ws.length ≤ maxLen) :
    Calls Try.prog 42 #[v, .slice a ws.length cap] w fun r w' => r = .returned (.bool (readyB n ws)) ∧ Below w.heap.size w w' := by
  obtain ⟨aa, ca, rfl, hz, ha⟩ := hn
  have hul := hz.2.1
  unfold maxLen at hul
  obtain ⟨W, hW⟩ : ∃ W, W = w.alloc (.cells #[.string n.name, .slice aa n.uses.length ca] 30) := ⟨_, rfl⟩
  have hBW : Below w.heap.size w W := by rw [hW]; exact (Below.refl _ _).alloc (Nat.le_refl _) _
  have HBW := hide hBW
  have HHAS := hide (fun (s : ByteArray) => l5Has_any lo2 a cap ws s W (h.kept hBW hBW.size) hl)
  have HA := hide (ha.kept hBW hBW.size)
  have n1 : W.cell? ⟨w.heap.size, 1, none⟩ = some (.slice aa n.uses.length ca) := by rw [hW, alloc_cell]; rfl
  have HN1 := hide n1
  obtain ⟨R, hR⟩ : ∃ R, readyB n ws = R := ⟨_, rfl⟩
  rw [hR]
  have HR := hide hR
  clear hR h ha hz n1 hBW
  go_enter Try.func42, Try.ntmps42
  go_wp2
  rw [← hW]
  clear hW
  go_loopw [5] (fun i wr => ∃ k : Nat, k ≤ n.uses.length ∧ i = .int .i64 k ∧ Hid (∀ j (hj : j < n.uses.length), j < k → hasW ws n.uses[j] = true) ∧ W = wr) (fun i _ => n.uses.length - (intOf i).toNat)
  case atStart => exact ⟨0, Nat.zero_le _, rfl, hide (fun j _ hj => absurd hj (Nat.not_lt_zero _)), rfl⟩
  case round =>
    obtain ⟨k, hk, rfl, HN, rfl⟩ := hrel
    have m1 := unhide HN1
    by_cases hp : k < n.uses.length
    · rcases unhide HA with hq | ⟨b, off, rfl, hbl, hbn, hc⟩
      · rw [hq] at hp; simp at hp
      have hck := hc k hp
      have HNX : Hid (hasW ws (n.uses[k]'hp) = true → ∀ j (hj : j < n.uses.length), j < k + 1 → hasW ws n.uses[j] = true) := hide (fun h2 j hj hjk => by
        by_cases e : j = k
        · subst e; exact h2
        · exact unhide HN j hj (by omega))
      have HEX : Hid (hasW ws (n.uses[k]'hp) = false → R = false) := hide (fun h2 => by rw [← unhide HR]; exact (by unfold readyB; rw [List.all_eq_false]; exact ⟨_, List.getElem_mem hp, by rw [h2]; simp⟩))
      obtain ⟨u, hu⟩ : ∃ u, n.uses[k]'hp = u := ⟨_, rfl⟩
      rw [hu] at hck HNX HEX
      have HC := hide (unhide HHAS u)
      obtain ⟨B, hB⟩ : ∃ B, hasW ws u = B := ⟨_, rfl⟩
      rw [hB] at HC HNX HEX
      clear hc hu hB
      go_wp2_with fail
      refine (unhide HC).mono ?_
      rintro r w3 ⟨rfl, rfl⟩
      cases B with
      | false =>
        have HE := hide (unhide HEX rfl)
        clear HEX HNX
        go_wp2
        go_ret
        exact ⟨ret_bool (unhide HE).symm, unhide HBW⟩
      | true =>
        have HE := hide (unhide HNX rfl)
        clear HEX HNX
        go_wp2
        go_roundw
        case rel => exact ⟨k + 1, by omega, by go_num, HE, by first | trivial | rfl⟩
        case measure => simp [intOf]; omega
    · have HE : Hid (R = true) := hide (by rw [← unhide HR]; exact (List.all_eq_true.2 (fun x hx => by obtain ⟨j, hj, rfl⟩ := List.getElem_of_mem hx; exact unhide HN j hj (by omega))))
      go_wp2
      go_ret
      exact ⟨ret_bool (unhide HE).symm, unhide HBW⟩

set_option maxHeartbeats 2000000 in
theorem l5Uses_any (lo lo2 : Nat) (v : Value) (n : TG) (a : Option Addr) (cap : Nat) (ws : List ByteArray) (w : World) (hn : IsGn w lo w.heap.size v n) (h : IsWds w lo2 w.heap.size a ws) (hl : ws.length ≤ maxLen) :
    Calls Try.prog 57 #[v, .slice a ws.length cap] w fun r w' => r = .returned (.bool (usesB n ws)) ∧ Below w.heap.size w w' := by
  obtain ⟨aa, ca, rfl, hz, ha⟩ := hn
  have hul := hz.2.1
  unfold maxLen at hul
  obtain ⟨W, hW⟩ : ∃ W, W = w.alloc (.cells #[.string n.name, .slice aa n.uses.length ca] 30) := ⟨_, rfl⟩
  have hBW : Below w.heap.size w W := by rw [hW]; exact (Below.refl _ _).alloc (Nat.le_refl _) _
  have HBW := hide hBW
  have HHAS := hide (fun (s : ByteArray) => l5Has_any lo2 a cap ws s W (h.kept hBW hBW.size) hl)
  have HA := hide (ha.kept hBW hBW.size)
  have n1 : W.cell? ⟨w.heap.size, 1, none⟩ = some (.slice aa n.uses.length ca) := by rw [hW, alloc_cell]; rfl
  have HN1 := hide n1
  obtain ⟨R, hR⟩ : ∃ R, usesB n ws = R := ⟨_, rfl⟩
  rw [hR]
  have HR := hide hR
  clear hR h ha hz n1 hBW
  go_enter Try.func57, Try.ntmps57
  go_wp2
  rw [← hW]
  clear hW
  go_loopw [5] (fun i wr => ∃ k : Nat, k ≤ n.uses.length ∧ i = .int .i64 k ∧ Hid (∀ j (hj : j < n.uses.length), j < k → hasW ws n.uses[j] = false) ∧ W = wr) (fun i _ => n.uses.length - (intOf i).toNat)
  case atStart => exact ⟨0, Nat.zero_le _, rfl, hide (fun j _ hj => absurd hj (Nat.not_lt_zero _)), rfl⟩
  case round =>
    obtain ⟨k, hk, rfl, HN, rfl⟩ := hrel
    have m1 := unhide HN1
    by_cases hp : k < n.uses.length
    · rcases unhide HA with hq | ⟨b, off, rfl, hbl, hbn, hc⟩
      · rw [hq] at hp; simp at hp
      have hck := hc k hp
      have HNX : Hid (hasW ws (n.uses[k]'hp) = false → ∀ j (hj : j < n.uses.length), j < k + 1 → hasW ws n.uses[j] = false) := hide (fun h2 j hj hjk => by
        by_cases e : j = k
        · subst e; exact h2
        · exact unhide HN j hj (by omega))
      have HEX : Hid (hasW ws (n.uses[k]'hp) = true → R = true) := hide (fun h2 => by rw [← unhide HR]; exact (List.any_eq_true.2 ⟨_, List.getElem_mem hp, h2⟩))
      obtain ⟨u, hu⟩ : ∃ u, n.uses[k]'hp = u := ⟨_, rfl⟩
      rw [hu] at hck HNX HEX
      have HC := hide (unhide HHAS u)
      obtain ⟨B, hB⟩ : ∃ B, hasW ws u = B := ⟨_, rfl⟩
      rw [hB] at HC HNX HEX
      clear hc hu hB
      go_wp2_with fail
      refine (unhide HC).mono ?_
      rintro r w3 ⟨rfl, rfl⟩
      cases B with
      | true =>
        have HE := hide (unhide HEX rfl)
        clear HEX HNX
        go_wp2
        go_ret
        exact ⟨ret_bool (unhide HE).symm, unhide HBW⟩
      | false =>
        have HE := hide (unhide HNX rfl)
        clear HEX HNX
        go_wp2
        go_roundw
        case rel => exact ⟨k + 1, by omega, by go_num, HE, by first | trivial | rfl⟩
        case measure => simp [intOf]; omega
    · have HE : Hid (R = false) := hide (by rw [← unhide HR]; exact (by unfold usesB; rw [List.any_eq_false]; intro x hx; obtain ⟨j, hj, rfl⟩ := List.getElem_of_mem hx; rw [unhide HN j hj (by omega)]; simp))
      go_wp2
      go_ret
      exact ⟨ret_bool (unhide HE).symm, unhide HBW⟩
end Go.Proofs.Ytgdeehldpmfpgaa
