/- When two objects are one; the walks of slices.Equal at numbers, instructions and references. Conditions: the rows can be read. -/
import Derived.Test.YtakcpfmpaopfdaaCi
import Derived.Laws.StructEq
namespace Go.Proofs.Ytakcpfmpaopfdaa
open Go.RowKit Go.PlainAid
def eqI (l m : List Int) : Bool := decide (l = m)

set_option maxHeartbeats 2000000 in
def allE {α : Type} (f : α → α → Bool) : List α → List α → Bool
  | [], [] => true
  | s :: r, t :: q => f s t && allE f r q
  | _, _ => false
theorem allE_len {α : Type} {f : α → α → Bool} : ∀ {l m : List α}, l.length ≠ m.length → allE f l m = false
  | [], [], h => absurd rfl h
  | [], _ :: _, _ => rfl
  | _ :: _, [], _ => rfl
  | s :: r, t :: q, h => by rw [allE, allE_len (fun e => h (by simp [e])), Bool.and_false]
theorem allE_no {α : Type} {f : α → α → Bool} : ∀ {l m : List α} {k : Nat} (h1 : k < l.length) (h2 : k < m.length), f l[k] m[k] = false → allE f l m = false
  | s :: r, t :: q, 0, _, _, h => by rw [allE]; simp at h; rw [h]; rfl
  | s :: r, t :: q, k + 1, h1, h2, h => by rw [allE, allE_no (k := k) (by simpa using h1) (by simpa using h2) (by simpa using h), Bool.and_false]
theorem allE_yes {α : Type} {f : α → α → Bool} : ∀ {l m : List α}, l.length = m.length → (∀ k (h1 : k < l.length) (h2 : k < m.length), f l[k] m[k] = true) → allE f l m = true
  | [], [], _, _ => rfl
  | s :: r, t :: q, hl, h => by
    rw [allE, show f s t = true from h 0 (by simp) (by simp), allE_yes (by simpa using hl) (fun k h1 h2 => h (k + 1) (by simpa using h1) (by simpa using h2))]
    rfl
  | [], _ :: _, hl, _ => by simp at hl
  | _ :: _, [], hl, _ => by simp at hl
theorem eqI_all : ∀ l m : List Int, allE (fun a b => a == b) l m = eqI l m
  | [], [] => by simp [allE, eqI]
  | [], _ :: _ => by simp [allE, eqI]
  | _ :: _, [] => by simp [allE, eqI]
  | a :: r, b :: q => by
    have := eqI_all r q
    unfold eqI at this ⊢
    rw [allE, this]
    by_cases h : a = b <;> simp [h]
def ciB (s t : TI) : Bool := s.op == t.op && s.a == t.a
def crB (s t : TR) : Bool := s.mod.toList == t.mod.toList && s.name.toList == t.name.toList
/-- Two functions are one. -/
def cfB (f g : TC) : Bool := f.name.toList == g.name.toList && (f.pub == g.pub && (eqI f.args g.args && (f.type == g.type && (f.slots == g.slots && allE ciB f.code g.code))))
/-- Two objects are one. -/
def objB (a b : TO) : Bool := allE crB a.refs b.refs && allE cfB a.funs b.funs

theorem equalCis_op (s t : TI) (w : World) : (Op.equalIn 10000 90 (.agg #[.int .i64 s.op, .int .i64 s.a]) (.agg #[.int .i64 t.op, .int .i64 t.a])).run Try.prog w = .ok (ciB s t) w := by
  have u3 := Try.underlying3
  have a3 := Try.isAgg3
  have z3 := Try.sizeOf3
  have u9 := Try.underlying9
  have a9 := Try.isAgg9
  have z9 := Try.sizeOf9
  have hS : Try.prog.underlying 90 = some (.struct (Try.prog.fieldsOf 90)) := by kernel_rfl
  rw [show (10000 : Nat) = 9999 + 1 from rfl, run_equalIn_agg w 9999 90 _ _ hS (by kernel_rfl)]
  simp only [Program.fieldsOf, Try.underlying90]
  go_simp
  unfold ciB
  by_cases h0 : s.op = t.op <;> by_cases h1 : s.a = t.a <;> simp [h0, h1]
set_option maxHeartbeats 2000000 in
theorem equalCrs_op (s t : TR) (w : World) : (Op.equalIn 10000 54 (.agg #[.string s.mod, .string s.name]) (.agg #[.string t.mod, .string t.name])).run Try.prog w = .ok (crB s t) w := by
  have u3 := Try.underlying3
  have a3 := Try.isAgg3
  have z3 := Try.sizeOf3
  have u9 := Try.underlying9
  have a9 := Try.isAgg9
  have z9 := Try.sizeOf9
  have hS : Try.prog.underlying 54 = some (.struct (Try.prog.fieldsOf 54)) := by kernel_rfl
  rw [show (10000 : Nat) = 9999 + 1 from rfl, run_equalIn_agg w 9999 54 _ _ hS (by kernel_rfl)]
  simp only [Program.fieldsOf, Try.underlying54]
  go_simp
  unfold crB
  by_cases h0 : s.mod.toList = t.mod.toList <;> by_cases h1 : s.name.toList = t.name.toList <;> simp [h0, h1]
end Go.Proofs.Ytakcpfmpaopfdaa
