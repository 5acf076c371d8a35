/- Tables of lines by their names, and their lines in order: the walk of told. Conditions: the table holds lines under their names. -/
import Derived.Test.YtifcfjjlgehopaaFh
import Derived.Test.YtifcfjjlgehopaaIt
import Derived.Maps.OwnSet
import Derived.Maps.Ext
import Derived.Sort.KeysCollected
namespace Go.Proofs.Ytifcfjjlgehopaa
open Go.RowKit Go.PlainAid

open Go.Maps Go.Sort
def RH (v : Value) : Option (DataW Value × List MemPlace) := some (.held v, [])
/-- The table D holds, under each name of the list, a line of the list with that name, and nothing else. -/
structure Tab (D : DataW Value) (l : List TS) : Prop where
  has : ∀ k, Maps.has D (.string k) = true ↔ ∃ s ∈ l, key s = k
  look : ∀ k, Maps.has D (.string k) = true → ∃ s ∈ l, key s = k ∧ ∀ z, D.atKey (.string k) z = .held (lineV s)
theorem keyLit (k : List UInt8) : WideAt.IsKeyLit (.string k) := by simp [WideAt.IsKeyLit]
theorem Tab.nil : Tab (.map []) [] := ⟨fun k => by simp [Maps.has], fun k h => by simp [Maps.has] at h⟩
theorem Tab.put {D : DataW Value} {l : List TS} (h : Tab D l) (hm : IsMap D) (s : TS) : Tab (D.put (.string (key s)) (.held (lineV s))) (l ++ [s]) := by
  have hne : ∀ k, key s ≠ k → (Lit.string k) ≠ (.string (key s)) := fun k hk e => hk (by simpa using e.symm)
  refine ⟨fun k => ?_, fun k hk => ?_⟩
  · by_cases e : key s = k
    · subst e
      rw [has_put_same hm (keyLit _)]
      exact ⟨fun _ => ⟨s, by simp, rfl⟩, fun _ => rfl⟩
    · rw [has_put_other (hne k e), h.has k]
      constructor
      · rintro ⟨t, ht, hk⟩; exact ⟨t, by simp [ht], hk⟩
      · rintro ⟨t, ht, hk⟩
        rcases List.mem_append.1 ht with h1 | h1
        · exact ⟨t, h1, hk⟩
        · simp at h1; subst h1; exact absurd hk e
  · by_cases e : key s = k
    · subst e
      exact ⟨s, by simp, rfl, fun z => atKey_put_same hm (keyLit _) _ _⟩
    · rw [has_put_other (hne k e)] at hk
      obtain ⟨t, ht, hk, hz⟩ := h.look k hk
      exact ⟨t, by simp [ht], hk, fun z => by rw [atKey_put_other (hne k e)]; exact hz z⟩
/-- Lines in ascending order. -/
def Asc (l : List TS) : Prop := (l.map key).Pairwise (fun a b => a < b)
theorem owns_below {P : Program} {k : TypeId} {R : Value → Option (DataW Value × List MemPlace)} {w w' : World} {b n m : Nat} {D : DataW Value} (h : w.ownsMap P k R b n D) (hb : Below m w w') (hm : b < m) : w'.ownsMap P k R b n D := by
  obtain ⟨es, clock, h1, h2⟩ := h
  exact ⟨es, clock, (hb.block b hm).trans h1, h2⟩
theorem keys_mem {P : Program} {k : TypeId} {R : Value → Option (DataW Value × List MemPlace)} {w : World} {b n : Nat} {D : DataW Value} (h : w.ownsMap P k R b n D) (hk : P.underlying k = some .string) (K : Keyed P k) :
    (∀ x, x ∈ strKeys D ↔ Maps.has D (.string x) = true) ∧ (strKeys D).Nodup ∧ ∀ x ∈ strKeys D, x.length ≤ maxLen := by
  have hle := strKeys_le h hk
  obtain ⟨es', hD', hpw⟩ := h.tidy K
  obtain ⟨es, rfl, hko⟩ := h.keysOf
  obtain rfl : es = es' := by simpa using hD'
  have hs : ∀ p ∈ es, ∃ x, p.1 = .string x := fun p hp => by
    obtain ⟨v, hv⟩ := hko p hp
    obtain ⟨x, _, hx, _⟩ := Maps.keyOf_str hk hv
    exact ⟨x, hx⟩
  refine ⟨fun x => ?_, ?_, hle⟩
  · rw [has_eq, List.any_eq_true]
    show x ∈ es.map (fun p => strOf p.1) ↔ _
    rw [List.mem_map]
    constructor
    · rintro ⟨p, hp, rfl⟩
      obtain ⟨a, ha⟩ := hs p hp
      exact ⟨p, hp, by rw [ha]; simp [Lit.sameKey, strOf]⟩
    · rintro ⟨p, hp, hx⟩
      obtain ⟨a, ha⟩ := hs p hp
      rw [ha] at hx
      exact ⟨p, hp, by rw [ha]; simpa [Lit.sameKey, strOf] using hx⟩
  · show (es.map fun p => strOf p.1).Nodup
    refine List.pairwise_map.2 (hpw.imp_of_mem fun {p q} hp hq hne e => hne ?_)
    obtain ⟨a, ha⟩ := hs p hp
    obtain ⟨b, hb⟩ := hs q hq
    rw [ha, hb] at e ⊢
    exact congrArg _ e
/-- The lines of a table, in order: what told hands back. -/
def Told (l ts : List TS) : Prop := Asc ts ∧ (∀ s ∈ ts, s ∈ l) ∧ ∀ s ∈ l, ∃ t ∈ ts, key t = key s
theorem told_plain {P : Program} {k : TypeId} {R : Value → Option (DataW Value × List MemPlace)} {w : World} {b n : Nat} {D : DataW Value} {l : List TS} (h : w.ownsMap P k R b n D) (hk : P.underlying k = some .string) (K : Keyed P k) (hT : Tab D l) {ss : List (List UInt8)} (hp : ss.Perm (strKeys D)) :
    ∃ ts : List TS, ts.map key = ss.mergeSort (fun x y => decide (x ≤ y)) ∧ Told l ts ∧ ∀ s ∈ ts, (∀ z, D.atKey (.string (key s)) z = .held (lineV s)) ∧ (key s).length ≤ maxLen := by
  obtain ⟨hm, hnd, hle⟩ := keys_mem h hk K
  have hperm : (ss.mergeSort (fun x y => decide (x ≤ y))).Perm (strKeys D) := (List.mergeSort_perm ss _).trans hp
  have hsort : (ss.mergeSort (fun x y => decide (x ≤ y))).Pairwise (fun a b => a < b) := by
    have tr : ∀ a b c : List UInt8, decide (a ≤ b) = true → decide (b ≤ c) = true → decide (a ≤ c) = true := fun a b c h1 h2 => by simp only [decide_eq_true_eq] at *; exact List.le_trans h1 h2
    have tl : ∀ a b : List UInt8, (decide (a ≤ b) || decide (b ≤ a)) = true := fun a b => by simp only [Bool.or_eq_true, decide_eq_true_eq]; exact List.le_total a b
    have h1 := List.pairwise_mergeSort tr tl ss
    have h2 : (ss.mergeSort (fun x y => decide (x ≤ y))).Nodup := hperm.nodup_iff.2 hnd
    refine (h1.and h2).imp ?_
    rintro a b ⟨h3, h4⟩
    simp only [decide_eq_true_eq] at h3
    by_cases h5 : a < b
    · exact h5
    · exact absurd (List.le_antisymm h3 (List.not_lt.1 h5)) h4
  generalize ss.mergeSort (fun x y => decide (x ≤ y)) = ks at hperm hsort
  have hall : ∀ k ∈ ks, ∃ s ∈ l, key s = k ∧ ∀ z, D.atKey (.string k) z = .held (lineV s) := fun k hk => hT.look k ((hm k).1 (hperm.mem_iff.1 hk))
  have hex : ∀ ks : List (List UInt8), (∀ k ∈ ks, ∃ s ∈ l, key s = k ∧ ∀ z, D.atKey (.string k) z = .held (lineV s)) → ∃ ts : List TS, ts.map key = ks ∧ ∀ s ∈ ts, s ∈ l ∧ ∀ z, D.atKey (.string (key s)) z = .held (lineV s) := by
    intro ks
    induction ks with
    | nil => exact fun _ => ⟨[], rfl, by simp⟩
    | cons a r ih =>
      intro hx
      obtain ⟨s, hs, he, hz⟩ := hx a (by simp)
      obtain ⟨ts, h1, h2⟩ := ih (fun k hk => hx k (by simp [hk]))
      refine ⟨s :: ts, by simp [h1, he], fun t ht => ?_⟩
      rcases List.mem_cons.1 ht with rfl | ht
      · exact ⟨hs, by rw [he]; exact hz⟩
      · exact h2 t ht
  obtain ⟨ts, h1, h2⟩ := hex ks hall
  refine ⟨ts, h1, ⟨by unfold Asc; rw [h1]; exact hsort, fun s hs => (h2 s hs).1, fun s hs => ?_⟩, fun s hs => ⟨(h2 s hs).2, hle _ (hperm.mem_iff.1 (by rw [← h1]; exact List.mem_map.2 ⟨s, hs, rfl⟩))⟩⟩
  have : key s ∈ ks := hperm.mem_iff.2 ((hm _).2 ((hT.has _).2 ⟨s, hs, rfl⟩))
  rw [← h1] at this
  obtain ⟨t, ht, he⟩ := List.mem_map.1 this
  exact ⟨t, ht, he⟩
end Go.Proofs.Ytifcfjjlgehopaa
