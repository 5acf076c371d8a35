/- The order of nodes, plain: again and again the first that is ready; the walk of spec.GraphOrder. Conditions: the nodes can be read. -/
import Derived.Test.YtgdeehldpmfpgaaQi
import Derived.Laws.OwnMore
namespace Go.Proofs.Ytgdeehldpmfpgaa
open Go.RowKit Go.PlainAid

/-- A node that is not in the order and is ready. -/
def canB (out : List ByteArray) (n : TG) : Bool := !(hasW out n.name) && readyB n out
/-- The order of nodes behind a beginning. -/
def orderG (l : List TG) : Nat → List ByteArray → List ByteArray
  | 0, out => out
  | f + 1, out => match l.find? (canB out) with
    | none => out
    | some x => orderG l f (out ++ [x.name])
/-- How many nodes are not in a list. -/
def leftG (l : List TG) (out : List ByteArray) : Nat := (l.filter (fun n => !(hasW out n.name))).length
theorem hasW_snoc (out : List ByteArray) (x s : ByteArray) : hasW (out ++ [x]) s = (hasW out s || x.toList == s.toList) := by
  unfold hasW
  rw [List.any_append]
  simp
theorem filter_lt {α : Type} {p q : α → Bool} : ∀ {l : List α}, (∀ x ∈ l, q x = true → p x = true) → (∃ x ∈ l, p x = true ∧ q x = false) → (l.filter q).length < (l.filter p).length
  | [], _, h => by obtain ⟨x, hx, _⟩ := h; cases hx
  | y :: t, h, hx => by
    have hle : (t.filter q).length ≤ (t.filter p).length := by
      clear hx
      induction t with
      | nil => exact Nat.le_refl _
      | cons z t ih =>
        have ih' := ih (fun x hx => h x (by
          rcases List.mem_cons.1 hx with rfl | hx
          · simp
          · simp [hx]))
        have hz := h z (by simp)
        rw [List.filter_cons, List.filter_cons]
        cases hq : q z with
        | true => rw [hz hq]; simpa using ih'
        | false =>
          cases hp : p z with
          | true => simp; omega
          | false => simpa using ih'
    obtain ⟨x, hx, hpx, hqx⟩ := hx
    rw [List.filter_cons, List.filter_cons]
    rcases List.mem_cons.1 hx with rfl | hx
    · rw [hpx, hqx]
      simp
      omega
    · have hlt := filter_lt (l := t) (fun x hx => h x (by simp [hx])) ⟨x, hx, hpx, hqx⟩
      have hy := h y (by simp)
      cases hq : q y with
      | true => rw [hy hq]; simpa using hlt
      | false =>
        cases hp : p y with
        | true => simp; omega
        | false => simpa using hlt
theorem left_lt {l : List TG} {out : List ByteArray} {x : TG} (hx : x ∈ l) (hn : hasW out x.name = false) : leftG l (out ++ [x.name]) < leftG l out := by
  unfold leftG
  refine filter_lt (fun y _ hy => ?_) ⟨x, hx, by rw [hn]; rfl, by rw [hasW_snoc]; simp⟩
  rw [hasW_snoc] at hy
  simp at hy ⊢
  exact hy.1
theorem left_le (l : List TG) (out : List ByteArray) : leftG l out ≤ l.length := List.length_filter_le _ _
/-- What a walk keeps: the order behind what is there is the whole one. -/
def OG (l : List TG) (out R : List ByteArray) : Prop := ∃ f, leftG l out ≤ f ∧ orderG l f out = R
theorem OG.next {l : List TG} {out R : List ByteArray} {k : Nat} (h : OG l out R) (hk : k < l.length) (hno : ∀ j (hj : j < l.length), j < k → canB out l[j] = false) (he : canB out l[k] = true) : OG l (out ++ [l[k].name]) R ∧ leftG l (out ++ [l[k].name]) < leftG l out := by
  obtain ⟨f, hf, hR⟩ := h
  have hn : hasW out l[k].name = false := by
    unfold canB at he
    simp at he
    exact he.1
  have hlt := left_lt (List.getElem_mem hk) hn
  refine ⟨?_, hlt⟩
  have hfind : l.find? (canB out) = some l[k] := by
    rw [List.find?_eq_some_iff_getElem]
    exact ⟨he, k, hk, rfl, fun j hj => by simp [hno j (by omega) hj]⟩
  cases f with
  | zero => omega
  | succ f =>
    rw [orderG, hfind] at hR
    exact ⟨f, by omega, hR⟩
theorem OG.done {l : List TG} {out R : List ByteArray} (h : OG l out R) (hno : ∀ j (hj : j < l.length), canB out l[j] = false) : out = R := by
  obtain ⟨f, hf, hR⟩ := h
  have hfind : l.find? (canB out) = none := by
    rw [List.find?_eq_none]
    intro x hx
    obtain ⟨j, hj, rfl⟩ := List.getElem_of_mem hx
    simp [hno j hj]
  cases f with
  | zero => exact hR
  | succ f => rw [orderG, hfind] at hR; exact hR
/-- The order of nodes; none, if they are no graph. -/
noncomputable def orderR (l : List TG) : List ByteArray := if graphB l = true then orderG l l.length [] else []
theorem OG.start {l : List TG} (h : graphB l = true) : OG l [] (orderR l) := ⟨l.length, left_le _ _, by unfold orderR; rw [if_pos h]⟩
end Go.Proofs.Ytgdeehldpmfpgaa
