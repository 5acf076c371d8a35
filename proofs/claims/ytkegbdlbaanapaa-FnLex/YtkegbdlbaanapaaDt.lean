/- The walks of DrawLexName, l23Dec, wlDec and DrawLexNum. Conditions: the slice that was handed in can be read. -/
import Derived.Test.YtkegbdlbaanapaaDs
namespace Go.Proofs.Ytkegbdlbaanapaa
open Go.RowKit Go.PlainAid

def isStr (v : Value) : Bool := match v with | .string s => decide (s.size ≤ 100) | _ => false
def strOf (v : Value) : ByteArray := match v with | .string s => s | _ => ⟨#[]⟩
def strAt (c : List Value) (j : Nat) : ByteArray := strOf (c.getD j (.string ⟨#[]⟩))
theorem isStr_eq {v : Value} (h : isStr v = true) : v = .string (strOf v) ∧ (strOf v).size ≤ 100 := by
  unfold isStr at h
  cases v <;> simp at h
  exact ⟨rfl, h⟩
theorem strAt_len {c : List Value} (h : c.all isStr = true) (j : Nat) : (strAt c j).size ≤ 100 := by
  unfold strAt
  by_cases hj : j < c.length
  · have e : c.getD j (.string ⟨#[]⟩) = c[j] := by simp [List.getD, hj]
    rw [e]
    exact (isStr_eq (List.all_eq_true.1 h _ (List.getElem_mem hj))).2
  · have e : c.getD j (.string ⟨#[]⟩) = .string ⟨#[]⟩ := by simp [List.getD, List.getElem?_eq_none (Nat.le_of_not_lt hj)]
    rw [e]; decide
theorem isList_of (w : World) (c : List Value) (t : TypeId) (m : Nat) (hm : m = c.length) (h : c.all isStr = true) : IsList (w.alloc (.cells c.toArray t)) w.heap.size m (strAt c) := by
  intro j hj
  rw [World.cell?_alloc_new]
  have hj' : j < c.length := by omega
  have e : c.getD j (.string ⟨#[]⟩) = c[j] := by simp [List.getD, hj']
  unfold strAt
  rw [e, ← (isStr_eq (List.all_eq_true.1 h _ (List.getElem_mem hj'))).1]
  simp [hj']

set_option maxHeartbeats 400000 in
theorem DrawLexName_any (a : Option Addr) (len cap : Nat) (w : World) (hl : len ≤ cap) (hm : cap ≤ maxLen) (h : Src w w.heap.size a len) :
    Calls Try.prog 18 #[.slice a len cap] w fun e w' => ∃ s : ByteArray, e = .returned (.string s) ∧ s.size ≤ 100 ∧ Below w.heap.size w w' := by
  have HO := hide (l23Open_any a len cap w hl hm h)
  clear h hl hm
  go_enter Try.func18, Try.ntmps18
  go_wp2_with fail
  refine (unhide HO).mono ?_
  rintro e w1 ⟨len', cap', rfl, hrd, hb, hsz⟩
  have HR := hide hrd
  have HB := hide hb
  have HZ := hide hsz
  clear hrd hb hsz
  go_wp2_with fail
  refine (of_any w.heap.size w1.heap.size 16 16 (strAt _) a len' cap' 0 _ ((unhide HR).kept ((Below.refl _ _).alloc (by rw [unhide HZ]; exact Nat.le_refl _) _)) (by omega) (by rw [unhide HZ]; omega) (by omega) (by omega) (isList_of _ _ _ _ rfl rfl)).mono ?_
  rintro e w2 ⟨j, hj, rfl, k, rfl⟩
  go_wp2
  go_ret
  refine ⟨_, rfl, strAt_len rfl _, ?_⟩
  exact (unhide HB).trans (((Below.refl _ _).alloc (by rw [unhide HZ]; omega) _).trans (pick_below _ _))
end Go.Proofs.Ytkegbdlbaanapaa
