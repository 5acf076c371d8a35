/- A heap of words, plain: what goes up, what goes down, what lies on top. -/
import Derived.Test.YtgdeehldpmfpgaaQn
namespace Go.Proofs.Ytgdeehldpmfpgaa
open Go.RowKit Go.PlainAid

theorem less_eqH : ∀ (x y : List UInt8), Op.bytesLess x y = decide (x < y)
  | [], [] => by simp [Op.bytesLess]
  | _ :: _, [] => by simp [Op.bytesLess]
  | [], _ :: _ => by simp [Op.bytesLess]
  | a :: x, b :: y => by
    rw [Op.bytesLess, less_eqH x y]
    rw [Bool.eq_iff_iff]
    simp [List.cons_lt_cons_iff]
def ltN (a b : ByteArray) : Prop := a.toList < b.toList
theorem ltN_less (a b : ByteArray) : Op.bytesLess a.toList b.toList = true ↔ ltN a b := by rw [less_eqH]; simp [ltN]
theorem ltN.trans {a b c : ByteArray} (h : ltN a b) (g : ltN b c) : ltN a c := List.lt_trans h g
theorem ltN.asymm {a b : ByteArray} (h : ltN a b) : ¬ ltN b a := fun g => List.lt_irrefl _ (List.lt_trans h g)
theorem not_ltN_trans {a b c : ByteArray} (h : ¬ ltN a b) (g : ¬ ltN b c) : ¬ ltN a c := by
  unfold ltN at *
  rw [List.not_lt] at *
  exact List.le_trans g h
/-- Two exchanged. -/
def swF (f : Nat → ByteArray) (i j : Nat) : Nat → ByteArray := fun k => if k = i then f j else if k = j then f i else f k
def parG (c : Nat) : Nat := (c - 1) / 2
theorem parG_lt {c : Nat} (h : 0 < c) : parG c < c := by unfold parG; omega
/-- None is less than the one over it. -/
def HeapF (f : Nat → ByteArray) (n : Nat) : Prop := ∀ c, 0 < c → c < n → ¬ ltN (f c) (f (parG c))
def UpF (f : Nat → ByteArray) (n j : Nat) : Prop := (∀ c, 0 < c → c < n → c ≠ j → ¬ ltN (f c) (f (parG c))) ∧ ∀ c, 0 < c → c < n → parG c = j → 0 < j → ¬ ltN (f c) (f (parG j))
theorem UpF.done {f : Nat → ByteArray} {n j : Nat} (h : UpF f n j) (hj : j = 0 ∨ ¬ ltN (f j) (f (parG j))) : HeapF f n := fun c h0 hn => by
  by_cases e : c = j
  · subst e
    rcases hj with rfl | hj
    · omega
    · exact hj
  · exact h.1 c h0 hn e
theorem UpF.next {f : Nat → ByteArray} {n j : Nat} (h : UpF f n j) (hj0 : 0 < j) (hjn : j < n) (hl : ltN (f j) (f (parG j))) : UpF (swF f (parG j) j) n (parG j) := by
  have hp := parG_lt hj0
  obtain ⟨i, hi⟩ : ∃ i, parG j = i := ⟨_, rfl⟩
  rw [hi] at hl hp ⊢
  have vi : swF f i j i = f j := by simp [swF]
  have vj : swF f i j j = f i := by have : j ≠ i := by omega
                                    simp [swF, this]
  have vo : ∀ k, k ≠ i → k ≠ j → swF f i j k = f k := fun k a b => by simp [swF, a, b]
  refine ⟨fun c h0 hn hc => ?_, fun c h0 hn hc hi0 => ?_⟩
  · by_cases ec : c = j
    · subst ec
      rw [vj, hi, vi]
      exact hl.asymm
    · rw [vo c hc ec]
      by_cases e1 : parG c = i
      · rw [e1, vi]
        intro hlt
        have := h.1 c h0 hn ec
        rw [e1] at this
        exact this (hlt.trans hl)
      · by_cases e2 : parG c = j
        · rw [e2, vj]
          have := h.2 c h0 hn e2 hj0
          rw [hi] at this
          exact this
        · rw [vo _ e1 e2]
          exact h.1 c h0 hn ec
  · have hpi := parG_lt hi0
    have hic : c ≠ i := fun e => by subst e; omega
    rw [vo (parG i) (by omega) (by omega)]
    have hii := h.1 i hi0 (by omega) (by omega)
    by_cases ec : c = j
    · subst ec
      rw [vj]
      exact hii
    · rw [vo c hic ec]
      have := h.1 c h0 hn ec
      rw [hc] at this
      exact not_ltN_trans this hii
def DownF (f : Nat → ByteArray) (n i : Nat) : Prop := (∀ c, 0 < c → c < n → parG c ≠ i → ¬ ltN (f c) (f (parG c))) ∧ ∀ c, 0 < c → c < n → parG c = i → 0 < i → ¬ ltN (f c) (f (parG i))
theorem par_kids {c i : Nat} (h0 : 0 < c) (h : parG c = i) : c = 2 * i + 1 ∨ c = 2 * i + 2 := by unfold parG at h; omega
theorem DownF.leaf {f : Nat → ByteArray} {n i : Nat} (h : DownF f n i) (hi : n ≤ 2 * i + 1) : HeapF f n := fun c h0 hn => h.1 c h0 hn (fun e => by have := par_kids h0 e; omega)
theorem DownF.done {f : Nat → ByteArray} {n i : Nat} (h : DownF f n i) (j : Nat) (hle : ∀ c, 0 < c → c < n → parG c = i → ¬ ltN (f c) (f j)) (hl : ¬ ltN (f j) (f i)) : HeapF f n := fun c h0 hn => by
  by_cases e : parG c = i
  · rw [e]; exact not_ltN_trans (hle c h0 hn e) hl
  · exact h.1 c h0 hn e
theorem DownF.next {f : Nat → ByteArray} {n i j : Nat} (h : DownF f n i) (hj0 : 0 < j) (hjn : j < n) (hji : parG j = i) (hle : ∀ c, 0 < c → c < n → parG c = i → ¬ ltN (f c) (f j)) (hl : ltN (f j) (f i)) : DownF (swF f i j) n j := by
  have hp := parG_lt hj0
  rw [hji] at hp
  have vi : swF f i j i = f j := by simp [swF]
  have vj : swF f i j j = f i := by have : j ≠ i := by omega
                                    simp [swF, this]
  have vo : ∀ k, k ≠ i → k ≠ j → swF f i j k = f k := fun k a b => by simp [swF, a, b]
  refine ⟨fun c h0 hn hc => ?_, fun c h0 hn hc _ => ?_⟩
  · by_cases e : parG c = i
    · rw [e, vi]
      by_cases ec : c = j
      · subst ec; rw [vj]; exact hl.asymm
      · have hci : c ≠ i := by have := parG_lt h0; omega
        rw [vo c hci ec]
        exact hle c h0 hn e
    · rw [vo (parG c) e hc]
      by_cases ei : c = i
      · subst ei
        rw [vi]
        exact h.2 j hj0 hjn hji h0
      · have ej : c ≠ j := fun ej => by subst ej; exact e hji
        rw [vo c ei ej]
        exact h.1 c h0 hn e
  · have hcj := parG_lt h0
    rw [hc] at hcj
    rw [hji, vi, vo c (by omega) (by omega)]
    have := h.1 c h0 hn (by omega)
    rw [hc] at this
    exact this
theorem HeapF.top {f : Nat → ByteArray} {n : Nat} (h : HeapF f n) : ∀ c, c < n → ¬ ltN (f c) (f 0) := by
  intro c
  induction c using Nat.strongRecOn with
  | _ c ih =>
    intro hc
    by_cases h0 : c = 0
    · subst h0; exact List.lt_irrefl _
    · have hp := parG_lt (c := c) (by omega)
      exact not_ltN_trans (h c (by omega) hc) (ih (parG c) hp (by omega))
/-- A row of words as a function of its places. -/
def atF (xs : List ByteArray) : Nat → ByteArray := fun k => xs.getD k ⟨#[]⟩
def swL (xs : List ByteArray) (i j : Nat) : List ByteArray := (xs.set i (atF xs j)).set j (atF xs i)
theorem swL_len (xs : List ByteArray) (i j : Nat) : (swL xs i j).length = xs.length := by simp [swL]
theorem swL_at {xs : List ByteArray} {i j : Nat} (hi : i < xs.length) (hj : j < xs.length) : atF (swL xs i j) = swF (atF xs) i j := by
  funext k
  unfold atF swF swL
  simp only [List.getD_eq_getElem?_getD, List.getElem?_set, List.length_set, atF]
  by_cases e1 : k = i
  · subst e1
    by_cases e2 : j = k
    · subst e2; simp [hi]
    · simp [e2, hi]
  · by_cases e2 : k = j
    · subst e2; simp [e1, hj]
    · simp [e1, e2, Ne.symm e1, Ne.symm e2]
theorem swL_perm {xs : List ByteArray} {i j : Nat} (hi : i < xs.length) (hj : j < xs.length) : (swL xs i j).Perm xs := by
  have e1 : atF xs j = xs[j] := by simp [atF, hj]
  have e2 : atF xs i = xs[i] := by simp [atF, hi]
  unfold swL
  rw [e1, e2]
  exact List.set_set_perm hi hj
/-- A heap with one more behind it is one that goes up from there. -/
theorem UpF.start {xs : List ByteArray} {s : ByteArray} (h : HeapF (atF xs) xs.length) : UpF (atF (xs ++ [s])) (xs.length + 1) xs.length := by
  have hv : ∀ k, k < xs.length → atF (xs ++ [s]) k = atF xs k := fun k hk => by simp [atF, List.getD_eq_getElem?_getD, List.getElem?_append_left hk]
  refine ⟨fun c h0 hn hc => ?_, fun c h0 hn hc _ => ?_⟩
  · have hp := parG_lt h0
    rw [hv c (by omega), hv _ (by omega)]
    exact h c h0 (by omega)
  · have hp := parG_lt h0
    omega
/-- A heap whose first and last are exchanged is, without its last, one that goes down from there. -/
theorem DownF.start {xs : List ByteArray} (h : HeapF (atF xs) xs.length) (hn : 0 < xs.length) : DownF (atF (swL xs 0 (xs.length - 1))) (xs.length - 1) 0 := by
  rw [swL_at hn (by omega)]
  refine ⟨fun c h0 hc hp => ?_, fun c h0 hc hp hz => absurd hz (Nat.lt_irrefl _)⟩
  have hp' := parG_lt h0
  have v1 : swF (atF xs) 0 (xs.length - 1) c = atF xs c := by unfold swF; rw [if_neg (by omega), if_neg (by omega)]
  have v2 : swF (atF xs) 0 (xs.length - 1) (parG c) = atF xs (parG c) := by unfold swF; rw [if_neg hp, if_neg (by omega)]
  rw [v1, v2]
  exact h c h0 (by omega)
end Go.Proofs.Ytgdeehldpmfpgaa
