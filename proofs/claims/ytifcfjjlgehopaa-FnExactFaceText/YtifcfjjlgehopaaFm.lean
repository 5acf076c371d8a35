/- When the lines of a list are those of its table: just if they ascend. No conditions. -/
import Derived.Test.YtifcfjjlgehopaaFk
import Derived.Test.YtifcfjjlgehopaaFl
namespace Go.Proofs.Ytifcfjjlgehopaa
open Go.RowKit Go.PlainAid

theorem less_eq : ∀ (x y : List UInt8), Op.bytesLess x y = decide (x < y)
  | [], [] => by simp [Op.bytesLess]
  | _ :: _, [] => by simp [Op.bytesLess]
  | [], _ :: _ => by simp [Op.bytesLess]
  | a :: x, b :: y => by
    rw [Op.bytesLess, less_eq x y]
    simp only [List.cons_lt_cons_iff]
    by_cases h1 : a < b <;> by_cases h2 : a = b <;> by_cases h3 : x < y <;> simp [h1, h2, h3]
theorem leN_lt (s t : TS) : leN s.name t.name = false ↔ key t < key s := by
  unfold leN key
  rw [ByteArray.toList_eq, ByteArray.toList_eq, less_eq]
  generalize s.name.data.toList = x
  generalize t.name.data.toList = y
  constructor
  · intro h
    rw [Bool.or_eq_false_iff] at h
    have h1 : ¬ x < y := of_decide_eq_false h.1
    have h2 : x ≠ y := by simpa using h.2
    by_cases h5 : y < x
    · exact h5
    · exact absurd (List.le_antisymm (List.not_lt.1 h5) (List.not_lt.1 h1)) h2
  · intro h
    have h1 : ¬ x < y := fun hh => absurd (List.lt_trans h hh) (List.lt_irrefl _)
    have h2 : x ≠ y := fun e => by rw [e] at h; exact List.lt_irrefl _ h
    simp [h1, h2]
def Nbr (l : List TS) : Prop := ∀ j (hj : j + 1 < l.length), leN l[j + 1].name l[j].name = false
theorem asc_of_nbr : ∀ {l : List TS}, Nbr l → Asc l
  | [], _ => List.Pairwise.nil
  | [s], _ => by simp [Asc]
  | s :: t :: r, h => by
    have h1 : Asc (t :: r) := asc_of_nbr (fun j hj => h (j + 1) (by simpa using hj))
    have h2 : key s < key t := (leN_lt t s).1 (h 0 (by simp))
    have h3 := List.pairwise_cons.1 h1
    refine List.pairwise_cons.2 ⟨fun k hk => ?_, h1⟩
    rcases List.mem_cons.1 hk with e | hk
    · rw [e]; exact h2
    · exact List.lt_trans h2 (h3.1 k hk)
theorem nbr_of_asc {l : List TS} (h : Asc l) : Nbr l := fun j hj => by
  rw [leN_lt]
  have := List.pairwise_iff_getElem.1 h j (j + 1) (by simp; omega) (by simpa using hj) (by omega)
  simpa using this
theorem lineB_self (s : TS) : lineB s s = true := by simp [lineB]
theorem lineB_key {s t : TS} (h : lineB s t = true) : key s = key t := by
  unfold lineB at h
  rw [Bool.and_eq_true] at h
  have := h.1
  rw [ByteArray.toList_eq, ByteArray.toList_eq] at this
  simpa [key] using this
theorem allB_self : ∀ l : List TS, allB l l = true
  | [] => rfl
  | s :: r => by rw [allB, lineB_self, allB_self r]; rfl
theorem allB_keys : ∀ {l m : List TS}, allB l m = true → l.map key = m.map key
  | [], [], _ => rfl
  | s :: r, t :: q, h => by
    rw [allB, Bool.and_eq_true] at h
    rw [List.map_cons, List.map_cons, lineB_key h.1, allB_keys h.2]
  | [], _ :: _, h => by simp [allB] at h
  | _ :: _, [], h => by simp [allB] at h
theorem told_eq {l ts : List TS} (h : Told l ts) (hl : Asc l) : l = ts := by
  obtain ⟨ha, h1, h2⟩ := h
  have inj : ∀ {m : List TS}, Asc m → ∀ s ∈ m, ∀ t ∈ m, key s = key t → s = t := by
    intro m hm s hs t ht e
    obtain ⟨i, hi, rfl⟩ := List.getElem_of_mem hs
    obtain ⟨j, hj, rfl⟩ := List.getElem_of_mem ht
    by_cases hij : i = j
    · subst hij; rfl
    · exfalso
      have hp := List.pairwise_iff_getElem.1 hm
      rcases Nat.lt_or_gt_of_ne hij with hlt | hlt
      · have := hp i j (by simpa using hi) (by simpa using hj) hlt
        simp only [List.getElem_map] at this
        rw [e] at this; exact List.lt_irrefl _ this
      · have := hp j i (by simpa using hj) (by simpa using hi) hlt
        simp only [List.getElem_map] at this
        rw [e] at this; exact List.lt_irrefl _ this
  have nd : ∀ {m : List TS}, Asc m → m.Nodup := by
    intro m hm
    refine (List.pairwise_map.1 hm).imp ?_
    intro a b hab e
    rw [e] at hab
    exact List.lt_irrefl _ hab
  have hmem : ∀ s, s ∈ l ↔ s ∈ ts := fun s => ⟨fun hs => by
    obtain ⟨t, ht, e⟩ := h2 s hs
    rw [← inj hl t (h1 t ht) s hs e]
    exact ht, fun hs => h1 s hs⟩
  have hp : l.Perm ts := (List.perm_ext_iff_of_nodup (nd hl) (nd ha)).2 hmem
  refine List.Perm.eq_of_pairwise (le := fun a b => key a < key b) (fun a b _ _ h3 h4 => ?_) (List.pairwise_map.1 hl) (List.pairwise_map.1 ha) hp
  exact absurd (List.lt_trans h3 h4) (List.lt_irrefl _)
/-- The lines of a list are those of its table just if they ascend. -/
theorem told_iff {l ts : List TS} (h : Told l ts) : allB l ts = true ↔ Nbr l := by
  constructor
  · intro hb
    have e := allB_keys hb
    exact nbr_of_asc (by have := h.1; unfold Asc at this ⊢; rw [e]; exact this)
  · intro hn
    rw [← told_eq h (asc_of_nbr hn)]
    exact allB_self l
end Go.Proofs.Ytifcfjjlgehopaa
