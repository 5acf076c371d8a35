/- The walk of impl.LexCut: the words of a text, or nothing. No conditions. -/
import Derived.Test.YtkegbdlbaanapaaXb
import Derived.Test.YtkegbdlbaanapaaWf
import Derived.RangeFuncBox
import Derived.Maps.AppendAt
namespace Go.Proofs.Ytkegbdlbaanapaa
open Go.RowKit Go.PlainAid Go.Shelf
attribute [local go_sem] Oper.semAt_some

def cutB (s : ByteArray) : Bool := decide (s.size ≤ 4000) && cleanB s && decide ((wordsOf s).length ≤ 1500)
def cutL (s : ByteArray) : List ByteArray := if cutB s = true then wordsOf s else []
theorem cut_no_of {s : ByteArray} (h : cutB s = false) : cutL s = [] := by unfold cutL; rw [h]; rfl
theorem cut_long {s : ByteArray} (h : 4000 < s.size) : cutB s = false := by unfold cutB; rw [decide_eq_false (by omega)]; rfl
theorem cut_unclean {s : ByteArray} (h : cleanB s = false) : cutB s = false := by unfold cutB; rw [h]; simp
theorem cut_many {s : ByteArray} (h : 1500 < (wordsOf s).length) : cutB s = false := by
  unfold cutB; rw [decide_eq_false (p := (wordsOf s).length ≤ 1500) (by omega)]; simp
theorem cut_yes {s : ByteArray} (h1 : s.size ≤ 4000) (h2 : cleanB s = true) (h3 : (wordsOf s).length ≤ 1500) : cutB s = true := by
  unfold cutB; rw [decide_eq_true h1, decide_eq_true h3, h2]; rfl
def Cuts (s : ByteArray) (w : World) (e : Ending) (w' : World) : Prop :=
  ∃ v, e = .returned (.tuple #[v, .bool (cutB s)]) ∧ w'.ownsRow w.heap.size 9 1 v (cutL s).length ((cutL s).map Value.string) ∧ Below w.heap.size w w'
theorem cuts_no {s : ByteArray} {w w' : World} (h : cutB s = false) (hb : Below w.heap.size w w') : Cuts s w (.returned (.tuple #[.slice none 0 0, .bool false])) w' := by
  refine ⟨.slice none 0 0, by rw [h], ?_, hb⟩
  rw [cut_no_of h]
  exact World.ownsRow_nil w' _ 9 1

set_option maxHeartbeats 400000 in
theorem LexCutI_long (s : ByteArray) (w : World) (hs : s.size ≤ maxLen) (h : 4000 < s.size) :
    Calls Try.prog 12 #[.string s] w (Cuts s w) := by
  unfold maxLen at hs
  have HC := hide (cut_long h)
  go_enter Try.func12, Try.ntmps12
  go_wp2
  refine bodyPost_ret (v := .tuple #[.slice none 0 0, .bool false]) (by simp [results, Try.results12, go_sem]) rfl ?_
  exact cuts_no (unhide HC) (((Below.refl _ _).alloc (Nat.le_refl _) _).alloc (by simp) _)
theorem boxed_other {W : World} {B C : Nat} {t : TypeId} {v : Value} (u : Value) (h : Boxed W B t v) (hne : B ≠ C) : Boxed (W.setCell ⟨C, 0, none⟩ u) B t v :=
  (Below.heap_setCell W ⟨C, 0, none⟩ u B hne).trans h
theorem boxed_below {W W' : World} {n B : Nat} {t : TypeId} {v : Value} (h : Boxed W B t v) (hb : Below n W W') (hB : B < n) : Boxed W' B t v := (hb.block B hB).trans h

set_option maxHeartbeats 400000 in
theorem LexCutI_unclean (s : ByteArray) (w : World) (h1 : ¬ 4000 < s.size) (h : cleanB s = false) :
    Calls Try.prog 12 #[.string s] w (Cuts s w) := by
  have HC := hide (cut_unclean h)
  have B1 := Boxed.new w 23 (.slice none 0 0)
  have B2 := Boxed.new (w.alloc (.cells #[.slice none 0 0] 23)) 4 (.bool false)
  rw [World.size_alloc] at B2
  have HB1 := hide (B1.alloc (.cells #[.bool false] 4))
  have HB2 := hide B2
  clear B1 B2
  go_enter Try.func12, Try.ntmps12
  go_wp2_with fail
  refine (lexClean_any s _).mono ?_
  rintro e w1 ⟨rfl, hb⟩
  have b1 := boxed_below (unhide HB1) hb (by simp; omega)
  have b2 := boxed_below (unhide HB2) hb (by simp)
  have c2 := b1.cell
  have c3 := b2.cell
  have f2 := b1.frozen
  have f3 := b2.frozen
  have d2 := (boxed_other (.bool false) (b1.set (.slice none 0 0)) (show w.heap.size ≠ w.heap.size + 1 by omega)).cell
  have d3 := ((boxed_other (.slice none 0 0) b2 (show w.heap.size + 1 ≠ w.heap.size by omega)).set (.bool false)).cell
  have HB := hide (((((Below.refl w.heap.size w).alloc (Nat.le_refl _) (.cells #[.slice none 0 0] 23)).alloc (by simp) (.cells #[.bool false] 4))).trans (hb.mono (by simp; omega)))
  clear hb b1 b2 HB1 HB2
  go_wp2
  refine bodyPost_ret (v := .tuple #[.slice none 0 0, .bool false]) (by simp [results, Try.results12, go_sem, d2, d3]) rfl ?_
  exact cuts_no (unhide HC) (((unhide HB).setCell (p := ⟨w.heap.size, 0, none⟩) (Nat.le_refl _) _).setCell (p := ⟨w.heap.size + 1, 0, none⟩) (by simp) _)
end Go.Proofs.Ytkegbdlbaanapaa
