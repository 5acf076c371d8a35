/- What is known of a function that a module may call: plain. No conditions. -/
import Derived.Test.YtkiaidjkhhljhaaNc
import Derived.Test.YtkiaidjkhhljhaaNe
namespace Go.Proofs.Ytkiaidjkhhljhaa
open Go.RowKit Go.PlainAid

def zS : TS := ⟨⟨#[]⟩, [], 0⟩
def isS (nm : ByteArray) (s : TS) : Bool := s.name.toList == nm.toList
def isF (nm : ByteArray) (f : TF) : Bool := f.name.toList == nm.toList
/-- What is known of a function that a module may call. -/
def findSig (m : TM) (ys : List TY) (md nm : ByteArray) : Option TS :=
  if (md.toList == []) = true then (m.funs.find? (isF nm)).map sigOf
  else if hasB m.uses md = true then (ys.find? (isMod md)).bind (fun y => y.sigs.find? (isS nm)) else none
/-- The answer of TypeFind. -/
abbrev FPost (w : World) (o : Option TS) (r : Ending) (w' : World) : Prop := ∃ v : Value, r = .returned (.tuple #[.agg #[.string (o.getD zS).name, v, .int .i64 (o.getD zS).type], .bool o.isSome]) ∧ OwnI w' w.heap.size w'.heap.size v (o.getD zS).args ∧ Below w.heap.size w w'
theorem find_at {α : Type} {p : α → Bool} {l : List α} {k : Nat} (hk : k < l.length) (hno : ∀ j (hj : j < l.length), j < k → p l[j] = false) (he : p l[k] = true) : l.find? p = some l[k] := by
  rw [List.find?_eq_some_iff_getElem]
  exact ⟨he, k, hk, rfl, fun j hj => by simp [hno j (by omega) hj]⟩
theorem find_none {α : Type} {p : α → Bool} {l : List α} (hno : ∀ j (hj : j < l.length), p l[j] = false) : l.find? p = none := by
  rw [List.find?_eq_none]
  intro x hx
  obtain ⟨j, hj, rfl⟩ := List.getElem_of_mem hx
  simp [hno j hj]
theorem no_next {α : Type} {p : α → Bool} {l : List α} {k : Nat} (hp : k < l.length) (hno : ∀ j (hj : j < l.length), j < k → p l[j] = false) (he : p l[k] = false) : ∀ j (hj : j < l.length), j < k + 1 → p l[j] = false := fun j hj hjk => by
  by_cases e : j = k
  · subst e; exact he
  · exact hno j hj (by omega)
theorem placeY_find {l : List TY} {md : ByteArray} : (∃ k, ∃ hk : k < l.length, placeY l md = (k : Int) ∧ l.find? (isMod md) = some l[k]) ∨ (placeY l md = -1 ∧ l.find? (isMod md) = none) := by
  unfold placeY
  cases h : l.findIdx? (isMod md) with
  | none =>
    refine .inr ⟨rfl, ?_⟩
    rw [List.findIdx?_eq_none_iff] at h
    rw [List.find?_eq_none]
    intro x hx
    simp [h x hx]
  | some k =>
    rw [List.findIdx?_eq_some_iff_getElem] at h
    obtain ⟨hk, he, hno⟩ := h
    exact .inl ⟨k, hk, rfl, find_at hk (fun j hj hjk => by simpa using hno j hjk) he⟩
end Go.Proofs.Ytkiaidjkhhljhaa
