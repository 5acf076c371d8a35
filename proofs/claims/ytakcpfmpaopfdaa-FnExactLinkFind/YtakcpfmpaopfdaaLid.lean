/- The place of a function in parts, plain: first places, and the table of the first function of each name. No conditions. -/
import Derived.Test.YtakcpfmpaopfdaaLia
import Derived.Test.YtakcpfmpaopfdaaCj
namespace Go.Proofs.Ytakcpfmpaopfdaa
open Go.RowKit Go.PlainAid

/-- A first place as a number, or -1. -/
def ixI (o : Option Nat) : Int := match o with | some k => (k : Int) | none => -1
theorem first_at {α : Type} {p : α → Bool} {l : List α} {k : Nat} (hk : k < l.length) (hno : ∀ j (hj : j < l.length), j < k → p l[j] = false) (he : p l[k] = true) : l.findIdx? p = some k := by
  rw [List.findIdx?_eq_some_iff_getElem]
  exact ⟨hk, he, fun j hj => by rw [hno j (by omega) hj]; simp⟩
theorem first_none {α : Type} {p : α → Bool} {l : List α} (hno : ∀ j (hj : j < l.length), p l[j] = false) : l.findIdx? p = none := by
  rw [List.findIdx?_eq_none_iff]
  intro x hx
  obtain ⟨j, hj, rfl⟩ := List.getElem_of_mem hx
  exact hno j hj
theorem first_lt {α : Type} {p : α → Bool} {l : List α} {k : Nat} (h : l.findIdx? p = some k) : k < l.length := by
  rw [List.findIdx?_eq_some_iff_getElem] at h
  exact h.1
theorem no_more {α : Type} {p : α → Bool} {l : List α} {k : Nat} (hp : k < l.length) (hno : ∀ j (hj : j < l.length), j < k → p l[j] = false) (he : p l[k] = false) : ∀ j (hj : j < l.length), j < k + 1 → p l[j] = false := fun j hj hjk => by
  by_cases e : j = k
  · subst e; exact he
  · exact hno j hj (by omega)
def isP (md : ByteArray) (x : TP) : Bool := x.name.toList == md.toList
def isG (nm : ByteArray) (f : TC) : Bool := f.name.toList == nm.toList
/-- How many functions the first so many parts have. -/
def baseL (l : List TP) (k : Nat) : Nat := ((l.take k).map (fun x => x.obj.funs.length)).sum
theorem base_step (l : List TP) (k : Nat) (h : k < l.length) : baseL l (k + 1) = baseL l k + l[k].obj.funs.length := by
  unfold baseL; rw [List.take_succ_eq_append_getElem h, List.map_append, List.sum_append]; simp
/-- What is known of a function: its module and name, its number, whether it is pub. -/
structure TN where
  ref : TR
  num : Nat
  pub : Bool
def qR (r : TR) (t : TN) : Bool := crB r t.ref
/-- The functions of a part, counted from n on. -/
def ents (m : ByteArray) : Nat → List TC → List TN
  | _, [] => []
  | n, f :: t => ⟨⟨m, f.name⟩, n, f.pub⟩ :: ents m (n + 1) t
theorem ents_len (m : ByteArray) : ∀ (n : Nat) (fs : List TC), (ents m n fs).length = fs.length
  | _, [] => rfl
  | n, f :: t => by simp [ents, ents_len m (n + 1) t]
theorem ents_at (m : ByteArray) : ∀ (n : Nat) (fs : List TC) (j : Nat) (h : j < fs.length), (ents m n fs)[j]'(by rw [ents_len]; exact h) = ⟨⟨m, fs[j].name⟩, n + j, fs[j].pub⟩
  | n, f :: t, 0, h => rfl
  | n, f :: t, j + 1, h => by
    have := ents_at m (n + 1) t j (by simpa using h)
    simp only [ents, List.getElem_cons_succ]
    rw [this, show n + 1 + j = n + (j + 1) by omega]
theorem ents_take (m : ByteArray) (n : Nat) (fs : List TC) (j : Nat) (h : j < fs.length) : (ents m n fs).take (j + 1) = (ents m n fs).take j ++ [⟨⟨m, fs[j].name⟩, n + j, fs[j].pub⟩] := by
  rw [List.take_succ_eq_append_getElem (by rw [ents_len]; exact h), ents_at m n fs j h]
/-- What is known of the first function of a name. -/
def entF (m : ByteArray) (n : Nat) (fs : List TC) (nm : ByteArray) : Option TN :=
  match fs.findIdx? (isG nm) with | some i => (fs[i]?).map (fun f => ⟨⟨m, f.name⟩, n + i, f.pub⟩) | none => none
theorem ents_find (md nm m : ByteArray) (hm : (m.toList == md.toList) = true) : ∀ (n : Nat) (fs : List TC), (ents m n fs).find? (qR ⟨md, nm⟩) = entF m n fs nm
  | _, [] => rfl
  | n, f :: t => by
    have ih := ents_find md nm m hm (n + 1) t
    have hm2 : (md.toList == m.toList) = true := by simp only [beq_iff_eq] at hm ⊢; exact hm.symm
    have hq : qR ⟨md, nm⟩ ⟨⟨m, f.name⟩, n, f.pub⟩ = isG nm f := by
      unfold qR crB isG
      rw [hm2, Bool.true_and, Bool.eq_iff_iff]; simp only [beq_iff_eq]; exact eq_comm
    unfold ents
    rw [List.find?_cons, hq]
    unfold entF at ih ⊢
    rw [List.findIdx?_cons]
    cases hg : isG nm f with
    | true => simp
    | false =>
      simp only [Bool.false_eq_true, if_false]
      rw [ih]
      cases hx : t.findIdx? (isG nm) with
      | none => rfl
      | some i => simp [Nat.add_assoc, Nat.add_comm 1 i]
theorem ents_other (md nm m : ByteArray) (hm : (m.toList == md.toList) = false) : ∀ (n : Nat) (fs : List TC), (ents m n fs).find? (qR ⟨md, nm⟩) = none
  | _, [] => rfl
  | n, f :: t => by
    have hm2 : (md.toList == m.toList) = false := by
      cases h : (md.toList == m.toList) with
      | false => rfl
      | true => rw [beq_iff_eq] at h; rw [h] at hm; simp at hm
    unfold ents
    rw [List.find?_cons]
    have hq : qR ⟨md, nm⟩ ⟨⟨m, f.name⟩, n, f.pub⟩ = false := by unfold qR crB; rw [hm2]; rfl
    rw [hq]
    exact ents_other md nm m hm (n + 1) t
/-- Whether a part ahead of the k-th has its name. -/
def ahead (l : List TP) (k : Nat) (nm : ByteArray) : Bool := (l.take k).any (isP nm)
/-- What the table is told of the k-th part. -/
def entP (l : List TP) (k : Nat) : List TN :=
  match l[k]? with | none => [] | some x => if ahead l k x.name then [] else ents x.name (baseL l k) x.obj.funs
def allN (l : List TP) (k : Nat) : List TN := ((List.range k).map (entP l)).flatten
theorem allN_step (l : List TP) (k : Nat) : allN l (k + 1) = allN l k ++ entP l k := by
  unfold allN; rw [List.range_succ, List.map_append, List.flatten_append]; simp
/-- What is known of the function that a module and a name mean. -/
def symR (l : List TP) (md nm : ByteArray) : Option TN :=
  match l.findIdx? (isP md) with | none => none | some p => match l[p]? with | none => none | some x => entF x.name (baseL l p) x.obj.funs nm
theorem isP_eq {a b : ByteArray} {x : TP} (h : (a.toList == b.toList) = true) : isP a x = isP b x := by
  unfold isP; rw [beq_iff_eq] at h; rw [h]
theorem allN_find (l : List TP) (md nm : ByteArray) : ∀ k, k ≤ l.length → (allN l k).find? (qR ⟨md, nm⟩) = match l.findIdx? (isP md) with | none => none | some p => if p < k then symR l md nm else none
  | 0, _ => by
    unfold allN
    cases l.findIdx? (isP md) <;> simp
  | k + 1, hk => by
    have ih := allN_find l md nm k (by omega)
    have hkl : k < l.length := by omega
    rw [allN_step, List.find?_append, ih]
    have hget : l[k]? = some l[k] := List.getElem?_eq_getElem hkl
    cases hp : isP md l[k] with
    | false =>
      have hN : (entP l k).find? (qR ⟨md, nm⟩) = none := by
        unfold entP
        rw [hget]
        by_cases ha : ahead l k l[k].name = true
        · simp [ha]
        · simp only [ha, Bool.false_eq_true, if_false]
          exact ents_other md nm _ hp _ _
      rw [hN, Option.or_none]
      cases hf : l.findIdx? (isP md) with
      | none => rfl
      | some p =>
        have : p ≠ k := fun e => by
          rw [List.findIdx?_eq_some_iff_getElem] at hf
          obtain ⟨h1, h2, _⟩ := hf
          subst e
          rw [hp] at h2; cases h2
        have e : (p < k + 1) = (p < k) := by rw [eq_iff_iff]; omega
        simp only [e]
    | true =>
      cases hf : l.findIdx? (isP md) with
      | none =>
        rw [List.findIdx?_eq_none_iff] at hf
        have := hf _ (List.getElem_mem hkl)
        rw [hp] at this; cases this
      | some p =>
        have hf2 := hf
        rw [List.findIdx?_eq_some_iff_getElem] at hf2
        obtain ⟨h1, h2, h3⟩ := hf2
        have hpk : p ≤ k := by
          by_cases g : p ≤ k
          · exact g
          · have := h3 k (by omega)
            rw [hp] at this; simp at this
        by_cases g : p < k
        · have ha : ahead l k l[k].name = true := by
            unfold ahead
            rw [List.any_eq_true]
            refine ⟨l[p], ?_, ?_⟩
            · rw [List.mem_take_iff_getElem]; exact ⟨p, by omega, rfl⟩
            · rw [isP_eq (b := md) hp]; exact h2
          have hE : entP l k = [] := by unfold entP; rw [hget]; simp [ha]
          rw [hE]
          simp only [g, if_true, show p < k + 1 by omega, List.find?_nil, Option.or_none]
        · have e : p = k := by omega
          subst e
          have ha : ahead l p l[p].name = false := by
            unfold ahead
            rw [Bool.eq_false_iff, Ne, List.any_eq_true]
            rintro ⟨x, hx, hq⟩
            rw [List.mem_take_iff_getElem] at hx
            obtain ⟨j, hj, rfl⟩ := hx
            have := h3 j (by omega)
            rw [isP_eq (b := md) hp] at hq
            exact this hq
          have hE : entP l p = ents l[p].name (baseL l p) l[p].obj.funs := by unfold entP; rw [hget]; simp [ha]
          rw [hE, ents_find md nm _ hp]
          have hS : symR l md nm = entF l[p].name (baseL l p) l[p].obj.funs nm := by unfold symR; rw [hf]; simp only [hget]
          simp [hS]
theorem allN_sym (l : List TP) (md nm : ByteArray) : (allN l l.length).find? (qR ⟨md, nm⟩) = symR l md nm := by
  rw [allN_find l md nm l.length (Nat.le_refl _)]
  cases hf : l.findIdx? (isP md) with
  | none => unfold symR; rw [hf]
  | some p => simp [first_lt hf]
/-- A table that knows the first of each name of a list. -/
def Knows (T E : List TN) : Prop := ∀ r, T.find? (qR r) = E.find? (qR r)
theorem qR_eq {r : TR} {e : TN} (h : qR r e = true) : qR r = qR e.ref := by
  unfold qR crB at h
  simp only [Bool.and_eq_true, beq_iff_eq] at h
  funext t
  unfold qR crB
  rw [h.1, h.2]
theorem Knows.had {T E : List TN} (h : Knows T E) {e x : TN} (hx : T.find? (qR e.ref) = some x) : Knows T (E ++ [e]) := fun r => by
  rw [List.find?_append, ← h r]
  cases hq : qR r e with
  | false => simp [hq]
  | true => rw [qR_eq hq, hx]; rfl
theorem Knows.add {T E : List TN} (h : Knows T E) (e : TN) : Knows (T ++ [e]) (E ++ [e]) := fun r => by
  rw [List.find?_append, List.find?_append, h r]
end Go.Proofs.Ytakcpfmpaopfdaa
