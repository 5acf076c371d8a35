/- Plain facts on numbers that are written: which texts are digits as a number is written with them, and what number they are. No conditions. -/
import Derived.Test.YtkegbdlbaanapaaWa
namespace Go.Proofs.Ytkegbdlbaanapaa
open Go.RowKit Go.PlainAid

def digit (c : UInt8) : Bool := decide (48 ≤ c.toNat) && decide (c.toNat ≤ 57)
def headZero (l : List UInt8) : Bool := l.head? == some 48
def decB (l : List UInt8) : Bool := decide (1 ≤ l.length) && decide (l.length ≤ 17) && !(decide (1 < l.length) && headZero l) && l.all digit
def numZ (l : List UInt8) : Int := l.foldl (fun n c => n * 10 + ((c.toNat : Int) - 48)) 0
def okN (neg : Bool) (l : List UInt8) : Bool := decB l && !(neg && (l == [48]))
def valN (neg : Bool) (l : List UInt8) : Int := if okN neg l = true then (if neg = true then - numZ l else numZ l) else 0

theorem digit_yes {c : UInt8} (h1 : 48 ≤ c.toNat) (h2 : c.toNat ≤ 57) : digit c = true := by unfold digit; simp [h1, h2]
theorem digit_no {c : UInt8} (h : c.toNat < 48 ∨ 57 < c.toNat) : digit c = false := by
  unfold digit
  rcases h with h | h
  · rw [decide_eq_false (by omega)]; rfl
  · rw [decide_eq_false (p := c.toNat ≤ 57) (by omega)]; simp
theorem digit_lo {c : UInt8} (h : digit c = true) : 48 ≤ c.toNat ∧ c.toNat ≤ 57 := by
  unfold digit at h; simpa using h
theorem numZ_snoc (l : List UInt8) (c : UInt8) : numZ (l ++ [c]) = numZ l * 10 + ((c.toNat : Int) - 48) := by
  unfold numZ; rw [List.foldl_append]; rfl
theorem numZ_step (s : ByteArray) (k : Nat) (h : k < s.size) : numZ (s.data.toList.take (k + 1)) = numZ (s.data.toList.take k) * 10 + ((s[k].toNat : Int) - 48) := by
  have e : s.data.toList.take (k + 1) = s.data.toList.take k ++ [s[k]] := by
    rw [List.take_succ_eq_append_getElem (by simpa using h)]; rfl
  rw [e, numZ_snoc]
theorem byte_mem (s : ByteArray) (k : Nat) (h : k < s.size) : s[k] ∈ s.data.toList := by exact Array.getElem_mem_toList (xs := s.data) h
theorem numZ_bound (s : ByteArray) (h : s.data.toList.all digit = true) : ∀ k, k ≤ s.size → 0 ≤ numZ (s.data.toList.take k) ∧ numZ (s.data.toList.take k) < 10 ^ k := by
  intro k
  induction k with
  | zero => intro _; exact ⟨by simp [numZ], by simp [numZ]⟩
  | succ k ih =>
    intro hk
    obtain ⟨i1, i2⟩ := ih (by omega)
    have hd : digit s[k] = true := by
      rw [List.all_eq_true] at h
      exact h _ (byte_mem s k (by omega))
    have hd := digit_lo hd
    rw [numZ_step s k (by omega)]
    have e : (10 : Int) ^ (k + 1) = 10 ^ k * 10 := by rw [Int.pow_succ]
    rw [e]
    generalize (10 : Int) ^ k = P at *
    generalize numZ (s.data.toList.take k) = N at *
    omega
theorem pow_le17 (k : Nat) (h : k ≤ 17) : (10 : Int) ^ k ≤ 100000000000000000 := by
  have : (10 : Nat) ^ k ≤ 10 ^ 17 := Nat.pow_le_pow_right (by omega) h
  have e : ((10 ^ k : Nat) : Int) = (10 : Int) ^ k := by simp
  omega
theorem numZ_small (s : ByteArray) (h : s.data.toList.all digit = true) (hs : s.size ≤ 17) (k : Nat) (hk : k ≤ s.size) : 0 ≤ numZ (s.data.toList.take k) ∧ numZ (s.data.toList.take k) < 100000000000000000 := by
  have := numZ_bound s h k hk
  have := pow_le17 k (by omega)
  omega
theorem take_all (s : ByteArray) (k : Nat) (h : ¬ k < s.size) : s.data.toList.take k = s.data.toList := by
  rw [List.take_of_length_le]
  show s.data.size ≤ k
  have : s.size = s.data.size := rfl
  omega
theorem headZero_at (s : ByteArray) (h : 0 < s.size) : headZero s.data.toList = (s[0] == 48) := by
  obtain ⟨⟨l⟩⟩ := s
  cases l with
  | nil => simp [ByteArray.size] at h
  | cons a t => simp [headZero]; rfl
theorem decB_short {l : List UInt8} (h : l.length < 1) : decB l = false := by unfold decB; rw [decide_eq_false (by omega)]; rfl
theorem decB_long {l : List UInt8} (h : 17 < l.length) : decB l = false := by
  unfold decB; rw [decide_eq_false (p := l.length ≤ 17) (by omega)]; simp
theorem decB_zero {l : List UInt8} (h : 1 < l.length) (h0 : headZero l = true) : decB l = false := by
  unfold decB; rw [decide_eq_true h, h0]; simp
theorem decB_bad {l : List UInt8} (h : l.all digit = false) : decB l = false := by unfold decB; simp only [h, Bool.and_false]
theorem decB_good {l : List UInt8} (h1 : ¬ l.length < 1) (h8 : ¬ 17 < l.length) (hk : ¬ 1 < l.length ∨ headZero l = false) (h : l.all digit = true) : decB l = true := by
  unfold decB; rw [decide_eq_true (p := 1 ≤ l.length) (by omega), decide_eq_true (p := l.length ≤ 17) (by omega), h]
  rcases hk with hk | hk
  · rw [decide_eq_false hk]; rfl
  · rw [hk]; simp
theorem decB_len {l : List UInt8} (h : decB l = true) : 1 ≤ l.length ∧ l.length ≤ 17 ∧ l.all digit = true := by
  unfold decB at h
  simp only [Bool.and_eq_true, decide_eq_true_eq] at h
  exact ⟨h.1.1.1, h.1.1.2, h.2⟩
end Go.Proofs.Ytkegbdlbaanapaa
