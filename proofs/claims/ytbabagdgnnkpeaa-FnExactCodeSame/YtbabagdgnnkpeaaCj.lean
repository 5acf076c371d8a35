/- When two objects are one; the walks of slices.Equal at numbers, instructions and references. Conditions: the rows can be read. -/
import Derived.Test.YtbabagdgnnkpeaaCi
import Derived.Laws.StructEq
namespace Go.Proofs.Ytbabagdgnnkpeaa
open Go.RowKit Go.PlainAid
def eqI (l m : List Int) : Bool := decide (l = m)

set_option maxHeartbeats 2000000 in
theorem equalInts_any (lo lo' : Nat) (a a2 : Option Addr) (cap cap2 : Nat) (ws hs : List Int) (w : World) (h : IsInts w lo w.heap.size a ws) (h2 : IsInts w lo' w.heap.size a2 hs) (hl : ws.length ≤ 1048576) :
    Calls Try.prog 23 #[.slice a ws.length cap, .slice a2 hs.length cap2] w fun r w' => r = .returned (.bool (eqI ws hs)) ∧ Below w.heap.size w w' := by
  have HW := hide h
  have HV := hide h2
  clear h h2
  by_cases hlen : ws.length = hs.length
  · have hq : ((ws.length : Int) != (hs.length : Int)) = false := by rw [hlen]; simp
    have HLEN := hide hlen
    clear hlen
    go_enter Try.func23, Try.ntmps23
    go_wp2
    go_loopw [5, 13] (fun _ i wr => ∃ k n : Nat, k ≤ ws.length ∧ i = .int .i64 k ∧ wr = w.drewN n ∧ Hid (∀ j (h1 : j < ws.length) (h2 : j < hs.length), j < k → ws[j] = hs[j])) (fun _ i _ => ws.length - (intOf i).toNat)
    case atStart => exact ⟨0, 0, Nat.zero_le _, rfl, rfl, hide (fun j _ _ hj => absurd hj (Nat.not_lt_zero _))⟩
    case round =>
      obtain ⟨k, n, hk, rfl, rfl, HN⟩ := hrel
      by_cases hp : k < ws.length
      · have hp2 : k < hs.length := by have := unhide HLEN; omega
        rcases unhide HW with h | ⟨b, off, rfl, hbl, hb, hc⟩
        · rw [h] at hp; simp at hp
        rcases unhide HV with h | ⟨b2, off2, rfl, hbl2, hb2, hc2⟩
        · rw [h] at hp2; simp at hp2
        have hck := hc k hp
        have hck2 := hc2 k hp2
        by_cases he : ws[k] = hs[k]
        · have HNX : Hid (∀ j (h1 : j < ws.length) (h2 : j < hs.length), j < k + 1 → ws[j] = hs[j]) := hide (fun j h1 h2 hj => by
            by_cases e : j = k
            · subst e; exact he
            · exact unhide HN j h1 h2 (by omega))
          rw [← he] at hck2
          obtain ⟨x, hx⟩ : ∃ x, ws[k]'hp = x := ⟨_, rfl⟩
          rw [hx] at hck hck2
          have hxx : (x != x) = false := by simp
          clear hc hc2 hx he
          go_wp2
          go_quiet (fail)
          go_wp2
          go_roundw
          case rel => exact ⟨k + 1, _, by omega, by go_num, by first | rfl | exact drewN_drewN _ _ _, HNX⟩
          case measure => simp [intOf]; omega
        · have HE := hide (show eqI ws hs = false from decide_eq_false (fun e => he (by subst e; rfl)))
          have hxx : (ws[k] != hs[k]) = true := by simpa using he
          obtain ⟨x, hx⟩ : ∃ x, ws[k]'hp = x := ⟨_, rfl⟩
          obtain ⟨y, hy⟩ : ∃ y, hs[k]'hp2 = y := ⟨_, rfl⟩
          rw [hx] at hck
          rw [hy] at hck2
          rw [hx, hy] at hxx
          clear hc hc2 hx hy he
          go_wp2
          go_quiet (fail)
          go_wp2
          go_ret
          exact ⟨ret_bool (unhide HE).symm, below_drewN (below_drewN (Below.refl _ _) _) _⟩
      · have HE := hide (show eqI ws hs = true from decide_eq_true (List.ext_getElem (unhide HLEN) (fun j h1 h2 => unhide HN j h1 h2 (by omega))))
        go_wp2
        go_ret
        exact ⟨ret_bool (unhide HE).symm, below_drewN (Below.refl _ _) _⟩
  · have hq : ((ws.length : Int) != (hs.length : Int)) = true := bne_iff_ne.2 (by omega)
    have HE := hide (show eqI ws hs = false from decide_eq_false (fun e => hlen (by rw [e])))
    clear hlen
    go_enter Try.func23, Try.ntmps23
    go_wp2
    go_ret
    exact ⟨ret_bool (unhide HE).symm, Below.refl _ _⟩

def allE {α : Type} (f : α → α → Bool) : List α → List α → Bool
  | [], [] => true
  | s :: r, t :: q => f s t && allE f r q
  | _, _ => false
theorem allE_len {α : Type} {f : α → α → Bool} : ∀ {l m : List α}, l.length ≠ m.length → allE f l m = false
  | [], [], h => absurd rfl h
  | [], _ :: _, _ => rfl
  | _ :: _, [], _ => rfl
  | s :: r, t :: q, h => by rw [allE, allE_len (fun e => h (by simp [e])), Bool.and_false]
theorem allE_no {α : Type} {f : α → α → Bool} : ∀ {l m : List α} {k : Nat} (h1 : k < l.length) (h2 : k < m.length), f l[k] m[k] = false → allE f l m = false
  | s :: r, t :: q, 0, _, _, h => by rw [allE]; simp at h; rw [h]; rfl
  | s :: r, t :: q, k + 1, h1, h2, h => by rw [allE, allE_no (k := k) (by simpa using h1) (by simpa using h2) (by simpa using h), Bool.and_false]
theorem allE_yes {α : Type} {f : α → α → Bool} : ∀ {l m : List α}, l.length = m.length → (∀ k (h1 : k < l.length) (h2 : k < m.length), f l[k] m[k] = true) → allE f l m = true
  | [], [], _, _ => rfl
  | s :: r, t :: q, hl, h => by
    rw [allE, show f s t = true from h 0 (by simp) (by simp), allE_yes (by simpa using hl) (fun k h1 h2 => h (k + 1) (by simpa using h1) (by simpa using h2))]
    rfl
  | [], _ :: _, hl, _ => by simp at hl
  | _ :: _, [], hl, _ => by simp at hl
theorem eqI_all : ∀ l m : List Int, allE (fun a b => a == b) l m = eqI l m
  | [], [] => by simp [allE, eqI]
  | [], _ :: _ => by simp [allE, eqI]
  | _ :: _, [] => by simp [allE, eqI]
  | a :: r, b :: q => by
    have := eqI_all r q
    unfold eqI at this ⊢
    rw [allE, this]
    by_cases h : a = b <;> simp [h]
def ciB (s t : TI) : Bool := s.op == t.op && s.a == t.a
def crB (s t : TR) : Bool := s.mod.toList == t.mod.toList && s.name.toList == t.name.toList
/-- Two functions are one. -/
def cfB (f g : TC) : Bool := f.name.toList == g.name.toList && (f.pub == g.pub && (eqI f.args g.args && (f.type == g.type && (f.slots == g.slots && allE ciB f.code g.code))))
/-- Two objects are one. -/
def objB (a b : TO) : Bool := allE crB a.refs b.refs && allE cfB a.funs b.funs

theorem equalCis_op (s t : TI) (w : World) : (Op.equalIn 10000 55 (.agg #[.int .i64 s.op, .int .i64 s.a]) (.agg #[.int .i64 t.op, .int .i64 t.a])).run Try.prog w = .ok (ciB s t) w := by
  have u3 := Try.underlying3
  have a3 := Try.isAgg3
  have z3 := Try.sizeOf3
  have u9 := Try.underlying9
  have a9 := Try.isAgg9
  have z9 := Try.sizeOf9
  have hS : Try.prog.underlying 55 = some (.struct (Try.prog.fieldsOf 55)) := by kernel_rfl
  rw [show (10000 : Nat) = 9999 + 1 from rfl, run_equalIn_agg w 9999 55 _ _ hS (by kernel_rfl)]
  simp only [Program.fieldsOf, Try.underlying55]
  go_simp
  unfold ciB
  by_cases h0 : s.op = t.op <;> by_cases h1 : s.a = t.a <;> simp [h0, h1]
set_option maxHeartbeats 2000000 in
theorem equalCis_any (lo lo2 : Nat) (a a2 : Option Addr) (cap cap2 : Nat) (l m : List TI) (w : World) (h : IsCis (IsCi w lo w.heap.size) w lo w.heap.size a l) (h2 : IsCis (IsCi w lo2 w.heap.size) w lo2 w.heap.size a2 m) (hl : l.length ≤ maxLen) :
    Calls Try.prog 24 #[.slice a l.length cap, .slice a2 m.length cap2] w fun r w' => r = .returned (.bool (allE ciB l m)) ∧ Below w.heap.size w w' := by
  unfold maxLen at hl
  have heq := equalCis_op
  have hg : Try.prog.eqGuardType Try.prog.depth 55 = false := by kernel_rfl
  have HW := hide h
  have HV := hide h2
  clear h h2
  by_cases hlm : l.length = m.length
  · have hq : ((l.length : Int) != (m.length : Int)) = false := by simp [hlm]
    have HLM := hide hlm
    clear hlm
    go_enter Try.func24, Try.ntmps24
    go_wp2
    go_loopw [5, 13] (fun _ i wr => ∃ k : Nat, k ≤ l.length ∧ i = .int .i64 k ∧ Hid (Below w.heap.size w wr) ∧ Hid (∀ j (h1 : j < l.length) (h2 : j < m.length), j < k → ciB l[j] m[j] = true)) (fun _ i _ => l.length - (intOf i).toNat)
    case atStart => exact ⟨0, Nat.zero_le _, rfl, hide (Below.refl _ _), hide (fun j _ _ hj => absurd hj (Nat.not_lt_zero _))⟩
    case round =>
      obtain ⟨k, hk, rfl, HB, HI⟩ := hrel
      by_cases hp : k < l.length
      · have hp2 : k < m.length := by have := unhide HLM; omega
        rcases (unhide HW).kept (unhide HB) (unhide HB).size with h | ⟨g, off, rfl, hbl, hgl, hc⟩
        · rw [h] at hp; simp at hp
        rcases (unhide HV).kept (unhide HB) (unhide HB).size with h | ⟨g2, off2, rfl, hbl2, hgl2, hc2⟩
        · rw [h] at hp2; simp at hp2
        obtain ⟨c0, c1, x0, x1, hr⟩ := hc k hp
        obtain ⟨e0, e1, y0, y1, hr2⟩ := hc2 k hp2
        have HN := hide (allE_no (f := ciB) (l := l) (m := m) hp hp2)
        have HY := hide (fun (h : ciB (l[k]'hp) (m[k]'hp2) = true) (j : Nat) (h1 : j < l.length) (h2 : j < m.length) (hjk : j < k + 1) => show ciB l[j] m[j] = true from by
          by_cases e : j = k
          · subst e; exact h
          · exact unhide HI j h1 h2 (by omega))
        obtain ⟨s, hs⟩ : ∃ s, l[k]'hp = s := ⟨_, rfl⟩
        obtain ⟨t, ht⟩ : ∃ t, m[k]'hp2 = t := ⟨_, rfl⟩
        rw [hs] at hr HN HY
        rw [ht] at hr2 HN HY
        have hr : (Value.agg #[c0, c1]) = .agg #[.int .i64 s.op, .int .i64 s.a] := hr
        have hr2 : (Value.agg #[e0, e1]) = .agg #[.int .i64 t.op, .int .i64 t.a] := hr2
        simp only [Value.agg.injEq, Array.mk.injEq, List.cons.injEq, and_true] at hr hr2
        obtain ⟨rfl, rfl⟩ := hr
        obtain ⟨rfl, rfl⟩ := hr2
        obtain ⟨B, hB⟩ : ∃ B, ciB s t = B := ⟨_, rfl⟩
        rw [hB] at HN HY
        clear hc hc2 hs ht HI
        cases B with
        | true =>
          have HI2 := hide (unhide HY rfl)
          go_wp2
          go_quiet (fail)
          clear hB x0 x1 y0 y1
          go_wp2
          go_roundw
          case rel => exact ⟨k + 1, by omega, by go_num, hide (below_drewN (unhide HB) _), HI2⟩
          case measure => simp [intOf]; omega
        | false =>
          have HR := hide (unhide HN rfl)
          go_wp2
          go_quiet (fail)
          clear hB x0 x1 y0 y1
          go_wp2
          go_ret
          exact ⟨ret_bool (unhide HR).symm, below_drewN (unhide HB) _⟩
      · have HR : Hid (allE ciB l m = true) := hide (allE_yes (unhide HLM) (fun j h1 h2 => unhide HI j h1 h2 (by omega)))
        clear heq hg
        go_wp2
        go_ret
        exact ⟨ret_bool (unhide HR).symm, unhide HB⟩
  · have HR : Hid (allE ciB l m = false) := hide (allE_len hlm)
    have hq : ((l.length : Int) != (m.length : Int)) = true := by simp; omega
    go_enter Try.func24, Try.ntmps24
    go_wp2
    go_ret
    exact ⟨ret_bool (unhide HR).symm, Below.refl _ _⟩

theorem equalCrs_op (s t : TR) (w : World) : (Op.equalIn 10000 37 (.agg #[.string s.mod, .string s.name]) (.agg #[.string t.mod, .string t.name])).run Try.prog w = .ok (crB s t) w := by
  have u3 := Try.underlying3
  have a3 := Try.isAgg3
  have z3 := Try.sizeOf3
  have u9 := Try.underlying9
  have a9 := Try.isAgg9
  have z9 := Try.sizeOf9
  have hS : Try.prog.underlying 37 = some (.struct (Try.prog.fieldsOf 37)) := by kernel_rfl
  rw [show (10000 : Nat) = 9999 + 1 from rfl, run_equalIn_agg w 9999 37 _ _ hS (by kernel_rfl)]
  simp only [Program.fieldsOf, Try.underlying37]
  go_simp
  unfold crB
  by_cases h0 : s.mod.toList = t.mod.toList <;> by_cases h1 : s.name.toList = t.name.toList <;> simp [h0, h1]
set_option maxHeartbeats 2000000 in
theorem equalCrs_any (lo lo2 : Nat) (a a2 : Option Addr) (cap cap2 : Nat) (l m : List TR) (w : World) (h : IsCrs (IsCr w lo w.heap.size) w lo w.heap.size a l) (h2 : IsCrs (IsCr w lo2 w.heap.size) w lo2 w.heap.size a2 m) (hl : l.length ≤ maxLen) :
    Calls Try.prog 14 #[.slice a l.length cap, .slice a2 m.length cap2] w fun r w' => r = .returned (.bool (allE crB l m)) ∧ Below w.heap.size w w' := by
  unfold maxLen at hl
  have heq := equalCrs_op
  have hg : Try.prog.eqGuardType Try.prog.depth 37 = false := by kernel_rfl
  have HW := hide h
  have HV := hide h2
  clear h h2
  by_cases hlm : l.length = m.length
  · have hq : ((l.length : Int) != (m.length : Int)) = false := by simp [hlm]
    have HLM := hide hlm
    clear hlm
    go_enter Try.func14, Try.ntmps14
    go_wp2
    go_loopw [5, 13] (fun _ i wr => ∃ k : Nat, k ≤ l.length ∧ i = .int .i64 k ∧ Hid (Below w.heap.size w wr) ∧ Hid (∀ j (h1 : j < l.length) (h2 : j < m.length), j < k → crB l[j] m[j] = true)) (fun _ i _ => l.length - (intOf i).toNat)
    case atStart => exact ⟨0, Nat.zero_le _, rfl, hide (Below.refl _ _), hide (fun j _ _ hj => absurd hj (Nat.not_lt_zero _))⟩
    case round =>
      obtain ⟨k, hk, rfl, HB, HI⟩ := hrel
      by_cases hp : k < l.length
      · have hp2 : k < m.length := by have := unhide HLM; omega
        rcases (unhide HW).kept (unhide HB) (unhide HB).size with h | ⟨g, off, rfl, hbl, hgl, hc⟩
        · rw [h] at hp; simp at hp
        rcases (unhide HV).kept (unhide HB) (unhide HB).size with h | ⟨g2, off2, rfl, hbl2, hgl2, hc2⟩
        · rw [h] at hp2; simp at hp2
        obtain ⟨c0, c1, x0, x1, hr⟩ := hc k hp
        obtain ⟨e0, e1, y0, y1, hr2⟩ := hc2 k hp2
        have HN := hide (allE_no (f := crB) (l := l) (m := m) hp hp2)
        have HY := hide (fun (h : crB (l[k]'hp) (m[k]'hp2) = true) (j : Nat) (h1 : j < l.length) (h2 : j < m.length) (hjk : j < k + 1) => show crB l[j] m[j] = true from by
          by_cases e : j = k
          · subst e; exact h
          · exact unhide HI j h1 h2 (by omega))
        obtain ⟨s, hs⟩ : ∃ s, l[k]'hp = s := ⟨_, rfl⟩
        obtain ⟨t, ht⟩ : ∃ t, m[k]'hp2 = t := ⟨_, rfl⟩
        rw [hs] at hr HN HY
        rw [ht] at hr2 HN HY
        have hr : (Value.agg #[c0, c1]) = .agg #[.string s.mod, .string s.name] := hr.1
        have hr2 : (Value.agg #[e0, e1]) = .agg #[.string t.mod, .string t.name] := hr2.1
        simp only [Value.agg.injEq, Array.mk.injEq, List.cons.injEq, and_true] at hr hr2
        obtain ⟨rfl, rfl⟩ := hr
        obtain ⟨rfl, rfl⟩ := hr2
        obtain ⟨B, hB⟩ : ∃ B, crB s t = B := ⟨_, rfl⟩
        rw [hB] at HN HY
        clear hc hc2 hs ht HI
        cases B with
        | true =>
          have HI2 := hide (unhide HY rfl)
          go_wp2
          go_quiet (fail)
          clear hB x0 x1 y0 y1
          go_wp2
          go_roundw
          case rel => exact ⟨k + 1, by omega, by go_num, hide (below_drewN (unhide HB) _), HI2⟩
          case measure => simp [intOf]; omega
        | false =>
          have HR := hide (unhide HN rfl)
          go_wp2
          go_quiet (fail)
          clear hB x0 x1 y0 y1
          go_wp2
          go_ret
          exact ⟨ret_bool (unhide HR).symm, below_drewN (unhide HB) _⟩
      · have HR : Hid (allE crB l m = true) := hide (allE_yes (unhide HLM) (fun j h1 h2 => unhide HI j h1 h2 (by omega)))
        clear heq hg
        go_wp2
        go_ret
        exact ⟨ret_bool (unhide HR).symm, unhide HB⟩
  · have HR : Hid (allE crB l m = false) := hide (allE_len hlm)
    have hq : ((l.length : Int) != (m.length : Int)) = true := by simp; omega
    go_enter Try.func14, Try.ntmps14
    go_wp2
    go_ret
    exact ⟨ret_bool (unhide HR).symm, Below.refl _ _⟩
end Go.Proofs.Ytbabagdgnnkpeaa
