/- Lines that are held against one another: what they are, when two are equal. No conditions. -/
import Derived.Test.YtifcfjjlgehopaaFg
import Derived.Laws.StructEq
import Derived.Laws.Tables
import Derived.Laws.Cover2
import Derived.KernelRfl
namespace Go.Proofs.Ytifcfjjlgehopaa
open Go.RowKit Go.PlainAid

def ar (s : TS) (i : Nat) : Int := s.args.getD i 0
def key (s : TS) : List UInt8 := s.name.data.toList
def lineC (s : TS) : List Value := [.string s.name, .int .i64 (ar s 0), .int .i64 (ar s 1), .int .i64 (ar s 2), .int .i64 (ar s 3), .int .i64 s.type]
abbrev lineV (s : TS) : Value := .agg #[.string s.name, .int .i64 (ar s 0), .int .i64 (ar s 1), .int .i64 (ar s 2), .int .i64 (ar s 3), .int .i64 s.type]
def lineB (s t : TS) : Bool := s.name.toList == t.name.toList && (ar s 0 == ar t 0 && (ar s 1 == ar t 1 && (ar s 2 == ar t 2 && (ar s 3 == ar t 3 && s.type == t.type))))
def flatL (l : List TS) : List Value := l.flatMap lineC
theorem eqArr (a b c d a' b' c' d' : Int) (w : World) : (Op.equalIn 9999 53 (.agg #[.int .i64 a, .int .i64 b, .int .i64 c, .int .i64 d]) (.agg #[.int .i64 a', .int .i64 b', .int .i64 c', .int .i64 d'])).run Try.prog w = .ok (a == a' && (b == b' && (c == c' && d == d'))) w := by
  have u3 := Try.underlying3
  have a3 := Try.isAgg3
  have z3 := Try.sizeOf3
  rw [show (9999 : Nat) = 9998 + 1 from rfl, Op.equalIn]
  simp only [Sem.run_bind, run_underlying Try.underlying53, Result.andThen_ok]
  simp only [Std.Legacy.Range.forIn_eq_forIn_range', Std.Legacy.Range.size, Nat.sub_zero, Nat.add_sub_cancel, Nat.div_one, List.range'_succ, List.range'_zero, List.forIn_cons, List.forIn_nil]
  go_simp
  by_cases h1 : a = a' <;> by_cases h2 : b = b' <;> by_cases h3 : c = c' <;> by_cases h4 : d = d' <;> simp [h1, h2, h3, h4]
theorem eqLine (n m : ByteArray) (a b c d a' b' c' d' r r' : Int) (w : World) : (Op.equalIn 10000 55 (.agg #[.string n, .int .i64 a, .int .i64 b, .int .i64 c, .int .i64 d, .int .i64 r]) (.agg #[.string m, .int .i64 a', .int .i64 b', .int .i64 c', .int .i64 d', .int .i64 r'])).run Try.prog w = .ok (n.toList == m.toList && (a == a' && (b == b' && (c == c' && (d == d' && r == r'))))) w := by
  have u3 := Try.underlying3
  have a3 := Try.isAgg3
  have z3 := Try.sizeOf3
  have u9 := Try.underlying9
  have a9 := Try.isAgg9
  have z9 := Try.sizeOf9
  have hA := fun w => eqArr a b c d a' b' c' d' w
  have hS : Try.prog.underlying 55 = some (.struct (Try.prog.fieldsOf 55)) := by kernel_rfl
  rw [show (10000 : Nat) = 9999 + 1 from rfl, run_equalIn_agg w 9999 55 _ _ hS (by kernel_rfl)]
  simp only [Program.fieldsOf, Try.underlying55]
  go_simp
  by_cases h0 : n.toList = m.toList <;> by_cases h1 : a = a' <;> by_cases h2 : b = b' <;> by_cases h3 : c = c' <;> by_cases h4 : d = d' <;> by_cases h5 : r = r' <;> simp [h0, h1, h2, h3, h4, h5]
theorem flatL_at : ∀ (l : List TS) (j i : Nat) (hj : j < l.length), i < 6 → (flatL l)[j * 6 + i]? = (lineC l[j])[i]?
  | [], j, i, hj, _ => by simp at hj
  | s :: r, 0, i, hj, hi => by
    show (lineC s ++ flatL r)[0 * 6 + i]? = _
    rw [List.getElem?_append_left (by simp [lineC]; omega)]
    simp
  | s :: r, j + 1, i, hj, hi => by
    show (lineC s ++ flatL r)[(j + 1) * 6 + i]? = _
    rw [List.getElem?_append_right (by simp [lineC]; omega), show (j + 1) * 6 + i - (lineC s).length = j * 6 + i by simp [lineC]; omega, flatL_at r j i (by simpa using hj) hi]
    simp
theorem flatL_snoc (l : List TS) (s : TS) : flatL (l ++ [s]) = flatL l ++ lineC s := by simp [flatL]
theorem flatL_length (l : List TS) : (flatL l).length = l.length * 6 := by
  induction l with
  | nil => rfl
  | cons s r ih => show (lineC s ++ flatL r).length = _; rw [List.length_append, ih]; simp [lineC]; omega
/-- A row of lines that can be read. -/
def IsLines (w : World) (a : Option Addr) (l : List TS) : Prop :=
  l = [] ∨ ∃ g : Nat, a = some ⟨g, 0, none⟩ ∧ g < w.heap.size ∧ ∀ j (hj : j < l.length) i, i < 6 → w.cell? ⟨g, j * 6 + i, none⟩ = (lineC l[j])[i]?
theorem fown_slice {W : World} {m e size k : Nat} {v : Value} {xs : List Value} (h : W.ownsRow m e size v k xs) : ∃ ao cap, v = .slice ao k cap := by
  rcases h.2 with ⟨hv, h0⟩ | ⟨g, cap, cur, hv, _⟩
  · exact ⟨none, 0, by rw [hv, h0]⟩
  · exact ⟨_, _, hv⟩
theorem fown_kept {W W' : World} {base e s n : Nat} {v : Value} {xs : List Value} (h : W.ownsRow base e s v n xs) (hb : Below W.heap.size W W') : W'.ownsRow base e s v n xs := by
  refine ⟨h.1, ?_⟩
  rcases h.2 with hn | ⟨g, cap, cur, hv, hg, hgb, rest⟩
  · exact .inl hn
  · exact .inr ⟨g, cap, cur, hv, hg, (hb.block g (Array.getElem?_eq_some_iff.1 hgb).1).trans hgb, rest⟩
theorem fown_lines {W : World} {m e k : Nat} {v : Value} {l : List TS} (h : W.ownsRow m e 6 v k (flatL l)) : ∃ (a : Option Addr) (cap : Nat), v = .slice a l.length cap ∧ k = l.length ∧ IsLines W a l := by
  have hk : k = l.length := by have := h.1; rw [flatL_length] at this; omega
  subst hk
  rcases h.2 with ⟨hv, h0⟩ | ⟨g, cap, cur, hv, hg, hgb, hnc, _, hcs, htk⟩
  · exact ⟨none, 0, by rw [hv, h0], rfl, .inl (List.eq_nil_of_length_eq_zero h0)⟩
  · refine ⟨_, _, hv, rfl, .inr ⟨g, rfl, (Array.getElem?_eq_some_iff.1 hgb).1, fun j hj i hi => ?_⟩⟩
    have h1 : W.cell? ⟨g, j * 6 + i, none⟩ = cur[j * 6 + i]? := by simp [World.cell?, hgb]
    have hlt : j * 6 + i < l.length * 6 := by omega
    rw [h1, ← flatL_at l j i hj hi, ← htk, List.getElem?_take_of_lt hlt]
    simp
end Go.Proofs.Ytifcfjjlgehopaa
