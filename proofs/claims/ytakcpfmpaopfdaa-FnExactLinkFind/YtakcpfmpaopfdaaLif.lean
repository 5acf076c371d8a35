/- The walks of spec.l9Part, spec.l9Fun, spec.l9Base and spec.LinkFind. Conditions: the parts can be read. -/
import Derived.Test.YtakcpfmpaopfdaaLie
import Derived.Test.YtakcpfmpaopfdaaLic
namespace Go.Proofs.Ytakcpfmpaopfdaa
open Go.RowKit Go.PlainAid

abbrev Parts (w : World) (lo : Nat) (a : Option Addr) (l : List TP) : Prop := IsPas (IsPa w lo w.heap.size) w lo w.heap.size a l
set_option maxHeartbeats 1000000 in
theorem l9Part_any (lo : Nat) (a : Option Addr) (cap : Nat) (l : List TP) (nm : ByteArray) (w : World) (h : Parts w lo a l) (hl : l.length ≤ maxLen) :
    Calls Try.prog 10 #[.slice a l.length cap, .string nm] w fun r w' => r = .returned (.int .i64 (ixI (l.findIdx? (isP nm)))) ∧ Below w.heap.size w w' := by
  unfold maxLen at hl
  have HW := hide h
  clear h
  go_enter Try.func10, Try.ntmps10
  go_wp2
  go_loop [5] (fun i => ∃ k : Nat, k ≤ l.length ∧ i = .int .i64 k ∧ Hid (∀ j (hj : j < l.length), j < k → isP nm l[j] = false)) (fun i => l.length - (intOf i).toNat)
  case atStart => exact ⟨0, Nat.zero_le _, rfl, hide (fun j _ hj => absurd hj (Nat.not_lt_zero _))⟩
  case round =>
    obtain ⟨k, hk, rfl, HN⟩ := hrel
    by_cases hp : k < l.length
    · rcases (unhide HW) with hq | ⟨b, off, rfl, hbl, hbn, hcs⟩
      · rw [hq] at hp; simp at hp
      obtain ⟨c0, c1, c2, d0, d1, d2, hr⟩ := hcs k hp
      have HY := hide (fun (h2 : isP nm (l[k]'hp) = true) => first_at hp (unhide HN) h2)
      have HNN := hide (fun (h2 : isP nm (l[k]'hp) = false) => no_more hp (unhide HN) h2)
      obtain ⟨x, hx⟩ : ∃ x, l[k]'hp = x := ⟨_, rfl⟩
      rw [hx] at hr HY HNN
      obtain ⟨aa, ca, ba, cb, hv, _, _⟩ := hr
      simp only [Value.agg.injEq, Array.mk.injEq, List.cons.injEq, and_true] at hv
      obtain ⟨rfl, rfl, rfl⟩ := hv
      have HIS : Hid (isP nm x = (x.name.toList == nm.toList)) := hide rfl
      clear hcs hx
      cases he : (x.name.toList == nm.toList) with
      | true =>
        have HE := hide (unhide HY ((unhide HIS).trans he))
        go_wp2
        go_ret
        exact ⟨by rw [unhide HE]; rfl, Below.refl _ _⟩
      | false =>
        have HE := hide (unhide HNN ((unhide HIS).trans he))
        go_wp2
        go_round
        case rel => exact ⟨k + 1, by omega, by go_num, HE⟩
        case measure => simp [intOf]; omega
    · have HE := hide (first_none (l := l) (p := isP nm) (fun j hj => unhide HN j hj (by omega)))
      go_wp2
      go_ret
      exact ⟨by rw [unhide HE]; rfl, Below.refl _ _⟩

set_option maxHeartbeats 1000000 in
theorem l9Fun_any (lo : Nat) (v : Value) (o : TO) (nm : ByteArray) (w : World) (h : IsObj w lo w.heap.size v o) :
    Calls Try.prog 11 #[v, .string nm] w fun r w' => r = .returned (.int .i64 (ixI (o.funs.findIdx? (isG nm)))) ∧ Below w.heap.size w w' := by
  obtain ⟨refs, funs⟩ := o
  obtain ⟨aa, ca, ba, cb, rfl, ⟨hs1, hs2⟩, ha, hb⟩ := h
  dsimp only at hs1 hs2 ha hb ⊢
  unfold maxLen at hs1 hs2
  have HW := hide (hb.kept ((Below.refl w.heap.size w).alloc (Nat.le_refl _) (.cells #[.slice aa refs.length ca, .slice ba funs.length cb] 42)) (by simp : w.heap.size ≤ (w.alloc (.cells #[.slice aa refs.length ca, .slice ba funs.length cb] 42)).heap.size))
  have HBW := hide ((Below.refl w.heap.size w).alloc (Nat.le_refl _) (.cells #[.slice aa refs.length ca, .slice ba funs.length cb] 42))
  have n1 : Blk (w.alloc (.cells #[.slice aa refs.length ca, .slice ba funs.length cb] 42)) w.heap.size [.slice aa refs.length ca, .slice ba funs.length cb] := Blk.new w _ _
  clear ha hb
  go_enter Try.func11, Try.ntmps11
  go_wp2
  obtain ⟨W, hWW⟩ : ∃ W, W = (w.alloc (.cells #[.slice aa refs.length ca, .slice ba funs.length cb] 42)) := ⟨_, rfl⟩
  rw [← hWW] at HW HBW n1 ⊢
  clear hWW
  have p1 := n1.cellAt (i := 1) rfl
  clear n1
  go_loop [5] (fun i => ∃ k : Nat, k ≤ funs.length ∧ i = .int .i64 k ∧ Hid (∀ j (hj : j < funs.length), j < k → isG nm funs[j] = false)) (fun i => funs.length - (intOf i).toNat)
  case atStart => exact ⟨0, Nat.zero_le _, rfl, hide (fun j _ hj => absurd hj (Nat.not_lt_zero _))⟩
  case round =>
    obtain ⟨k, hk, rfl, HN⟩ := hrel
    by_cases hp : k < funs.length
    · rcases (unhide HW) with hq | ⟨b, off, rfl, hbl, hbn, hcs⟩
      · rw [hq] at hp; simp at hp
      obtain ⟨c0, c1, c2, c3, c4, c5, d0, d1, d2, d3, d4, d5, hr⟩ := hcs k hp
      have HY := hide (fun (h2 : isG nm (funs[k]'hp) = true) => first_at hp (unhide HN) h2)
      have HNN := hide (fun (h2 : isG nm (funs[k]'hp) = false) => no_more hp (unhide HN) h2)
      obtain ⟨x, hx⟩ : ∃ x, funs[k]'hp = x := ⟨_, rfl⟩
      rw [hx] at hr HY HNN
      obtain ⟨aa, ca, ba, cb, hv, _, _⟩ := hr
      simp only [Value.agg.injEq, Array.mk.injEq, List.cons.injEq, and_true] at hv
      obtain ⟨rfl, rfl, rfl, rfl, rfl, rfl⟩ := hv
      have HIS : Hid (isG nm x = (x.name.toList == nm.toList)) := hide rfl
      clear hcs hx
      cases he : (x.name.toList == nm.toList) with
      | true =>
        have HE := hide (unhide HY ((unhide HIS).trans he))
        go_wp2
        go_ret
        exact ⟨by rw [unhide HE]; rfl, unhide HBW⟩
      | false =>
        have HE := hide (unhide HNN ((unhide HIS).trans he))
        go_wp2
        go_round
        case rel => exact ⟨k + 1, by omega, by go_num, HE⟩
        case measure => simp [intOf]; omega
    · have HE := hide (first_none (l := funs) (p := isG nm) (fun j hj => unhide HN j hj (by omega)))
      go_wp2
      go_ret
      exact ⟨by rw [unhide HE]; rfl, unhide HBW⟩

theorem base_le (l : List TP) (k : Nat) : baseL l k ≤ wtPas l := by
  unfold baseL wtPas
  have h : ∀ m : List TP, (m.map (fun x => x.obj.funs.length)).sum ≤ (m.map TP.wt).sum := by
    intro m
    induction m with
    | nil => simp
    | cons x t ih =>
      simp only [List.map_cons, List.sum_cons]
      have : x.wt = x.name.size + ((x.obj.refs.length + wtCrs x.obj.refs) + (x.obj.funs.length + wtCfs x.obj.funs)) := rfl
      omega
  have := h (l.take k)
  have h2 : (l.map TP.wt).sum = ((l.take k).map TP.wt).sum + ((l.drop k).map TP.wt).sum := by
    conv => lhs; rw [← List.take_append_drop k l]
    rw [List.map_append, List.sum_append]
  omega
set_option maxHeartbeats 1000000 in
theorem l9Base_any (lo : Nat) (a : Option Addr) (cap : Nat) (l : List TP) (n : Nat) (w : World) (h : Parts w lo a l) (hl : l.length ≤ maxLen) (hn : n ≤ l.length) (hw : wtPas l ≤ 1048576) :
    Calls Try.prog 12 #[.slice a l.length cap, .int .i64 n] w fun r w' => r = .returned (.int .i64 (baseL l n)) ∧ Below w.heap.size w w' := by
  unfold maxLen at hl
  have HW := hide h
  have HLE := hide (fun k => Nat.le_trans (base_le l k) hw)
  clear h hw
  go_enter Try.func12, Try.ntmps12
  go_wp2
  go_loop [5, 6] (fun s i => ∃ k S : Nat, k ≤ n ∧ i = .int .i64 k ∧ s = .int .i64 S ∧ Hid (S = baseL l k)) (fun _ i => n - (intOf i).toNat)
  case atStart => exact ⟨0, 0, Nat.zero_le _, rfl, rfl, hide (by simp [baseL])⟩
  case round =>
    obtain ⟨k, S, hk, rfl, rfl, HS⟩ := hrel
    by_cases hp : k < n
    · have hpl : k < l.length := by omega
      rcases (unhide HW) with hq | ⟨b, off, rfl, hbl, hbn, hcs⟩
      · rw [hq] at hpl; simp at hpl
      obtain ⟨c0, c1, c2, d0, d1, d2, hr⟩ := hcs k hpl
      have HST := hide (base_step l k hpl)
      have h1 := unhide HLE (k + 1)
      rw [unhide HST, ← unhide HS] at h1
      obtain ⟨x, hx⟩ : ∃ x, l[k]'hpl = x := ⟨_, rfl⟩
      rw [hx] at hr HST h1
      obtain ⟨aa, ca, ba, cb, hv, _, _⟩ := hr
      simp only [Value.agg.injEq, Array.mk.injEq, List.cons.injEq, and_true] at hv
      obtain ⟨rfl, rfl, rfl⟩ := hv
      obtain ⟨F, hF⟩ : ∃ F, x.obj.funs.length = F := ⟨_, rfl⟩
      rw [hF] at d2 h1 HST
      have HSS : Hid (S + F = baseL l (k + 1)) := hide (by rw [unhide HST, ← unhide HS])
      clear hcs hx hF
      go_wp2
      go_round
      case rel => exact ⟨k + 1, S + F, by omega, by go_num, by go_num, HSS⟩
      case measure => simp [intOf]; omega
    · have e : k = n := by omega
      subst e
      go_wp2
      go_ret
      exact ⟨ret_int (by rw [unhide HS]), Below.refl _ _⟩
end Go.Proofs.Ytakcpfmpaopfdaa
