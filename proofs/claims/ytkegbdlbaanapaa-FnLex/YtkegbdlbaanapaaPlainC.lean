/- Plain facts on cutting a text to its words: the words of a text, step by step. No conditions. -/
import Derived.Test.YtkegbdlbaanapaaWa
import Derived.Lib.Strings
namespace Go.Proofs.Ytkegbdlbaanapaa
open Go.RowKit Go.PlainAid

def blank (c : UInt8) : Bool := c == 32 || c == 10
def bracket (c : UInt8) : Bool := c == 40 || c == 41
def fine (c : UInt8) : Bool := blank c || (decide (33 ≤ c.toNat) && decide (c.toNat ≤ 126))
def mkB (l : List UInt8) : ByteArray := ⟨l.toArray⟩
def flush (cur : List UInt8) : List (List UInt8) := match cur with | [] => [] | _ :: _ => [cur]
/-- The words of what is left of a text, a run being under way. -/
def wordsGo : List UInt8 → List UInt8 → List (List UInt8)
  | [], cur => flush cur
  | c :: t, cur => if blank c = true then flush cur ++ wordsGo t [] else if bracket c = true then flush cur ++ ([c] :: wordsGo t []) else wordsGo t (cur ++ [c])
def wordsOf (s : ByteArray) : List ByteArray := (wordsGo s.data.toList []).map mkB
def curOf (s : ByteArray) (a b : Nat) : List UInt8 := (s.data.toList.drop a).take (b - a)
def restOf (s : ByteArray) (start pos : Nat) : List ByteArray := (wordsGo (s.data.toList.drop pos) (curOf s start pos)).map mkB

theorem ext_mk (s : ByteArray) (a b : Nat) : s.extract a b = mkB (curOf s a b) := Lib.extract_eq s a b
theorem curOf_self (s : ByteArray) (a : Nat) : curOf s a a = [] := by unfold curOf; rw [Nat.sub_self, List.take_zero]
theorem curOf_ne (s : ByteArray) (a b : Nat) (h : a < b) (hb : b ≤ s.size) : curOf s a b ≠ [] := by
  intro e
  have : (curOf s a b).length = 0 := by rw [e]; rfl
  unfold curOf at this
  rw [List.length_take, List.length_drop, ← size_len] at this
  omega
theorem drop_cons (s : ByteArray) (k : Nat) (h : k < s.size) : s.data.toList.drop k = s[k] :: s.data.toList.drop (k + 1) := by
  have hl : k < s.data.toList.length := by rw [← size_len]; exact h
  rw [List.drop_eq_getElem_cons hl]
  rfl
theorem curOf_snoc (s : ByteArray) (a b : Nat) (h : a ≤ b) (hb : b < s.size) : curOf s a (b + 1) = curOf s a b ++ [s[b]] := by
  unfold curOf
  have hl : b - a < (s.data.toList.drop a).length := by rw [List.length_drop, ← size_len]; omega
  have e : b + 1 - a = (b - a) + 1 := by omega
  rw [e, List.take_succ_eq_append_getElem hl, List.getElem_drop]
  have e2 : a + (b - a) = b := by omega
  have e3 : s.data.toList[a + (b - a)]'(by rw [← size_len]; omega) = s[b] := by
    simp only [e2]
    rfl
  rw [e3]
theorem curOf_one (s : ByteArray) (a : Nat) (h : a < s.size) : curOf s a (a + 1) = [s[a]] := by
  rw [curOf_snoc s a a (Nat.le_refl _) h, curOf_self]; rfl
theorem flush_nil : flush [] = [] := rfl
theorem flush_ne {l : List UInt8} (h : l ≠ []) : flush l = [l] := by
  cases l with
  | nil => exact absurd rfl h
  | cons a t => rfl
theorem rest_start (s : ByteArray) : restOf s 0 0 = wordsOf s := by unfold restOf wordsOf; rw [curOf_self, List.drop_zero]
/-- An ordinary byte: the run goes on. -/
theorem rest_go (s : ByteArray) (a b : Nat) (h : a ≤ b) (hb : b < s.size) (h1 : blank s[b] = false) (h2 : bracket s[b] = false) : restOf s a b = restOf s a (b + 1) := by
  unfold restOf
  rw [drop_cons s b hb, wordsGo, h1, h2, curOf_snoc s a b h hb]
  rfl
/-- A blank: the run ends, if there is one. -/
theorem rest_blank0 (s : ByteArray) (b : Nat) (hb : b < s.size) (h1 : blank s[b] = true) : restOf s b b = restOf s (b + 1) (b + 1) := by
  unfold restOf
  rw [drop_cons s b hb, wordsGo, if_pos h1, curOf_self, curOf_self]
  rfl
theorem rest_blank1 (s : ByteArray) (a b : Nat) (h : a < b) (hb : b < s.size) (h1 : blank s[b] = true) : restOf s a b = s.extract a b :: restOf s (b + 1) (b + 1) := by
  unfold restOf
  rw [drop_cons s b hb, wordsGo, if_pos h1, curOf_self, flush_ne (curOf_ne s a b h (by omega)), ext_mk]
  rfl
/-- A bracket: the run ends, if there is one; the bracket is a word. -/
theorem rest_br0 (s : ByteArray) (b : Nat) (hb : b < s.size) (h1 : blank s[b] = false) (h2 : bracket s[b] = true) : restOf s b b = s.extract b (b + 1) :: restOf s (b + 1) (b + 1) := by
  unfold restOf
  rw [drop_cons s b hb, wordsGo, if_neg (by rw [h1]; decide), if_pos h2, curOf_self, curOf_self, ext_mk, curOf_one s b hb]
  rfl
theorem rest_br1 (s : ByteArray) (a b : Nat) (h : a < b) (hb : b < s.size) (h1 : blank s[b] = false) (h2 : bracket s[b] = true) : restOf s a b = s.extract a b :: s.extract b (b + 1) :: restOf s (b + 1) (b + 1) := by
  unfold restOf
  rw [drop_cons s b hb, wordsGo, if_neg (by rw [h1]; decide), if_pos h2, curOf_self, flush_ne (curOf_ne s a b h (by omega)), ext_mk, ext_mk, curOf_one s b hb]
  rfl
/-- The text's end. -/
theorem rest_end0 (s : ByteArray) (b : Nat) (hb : b = s.size) : restOf s b b = [] := by
  unfold restOf
  rw [List.drop_of_length_le (by rw [← size_len]; omega), curOf_self]
  rfl
theorem rest_end1 (s : ByteArray) (a b : Nat) (h : a < b) (hb : b = s.size) : restOf s a b = [s.extract a b] := by
  unfold restOf
  rw [List.drop_of_length_le (by rw [← size_len]; omega)]
  show (flush (curOf s a b)).map mkB = _
  rw [flush_ne (curOf_ne s a b h (by omega)), ext_mk]
  rfl
theorem wordsGo_len : ∀ (l cur : List UInt8), (wordsGo l cur).length ≤ l.length + (if cur = [] then 0 else 1) + l.length
  | [], cur => by cases cur <;> simp [wordsGo, flush]
  | c :: t, cur => by
    have h1 := wordsGo_len t []
    have h2 := wordsGo_len t (cur ++ [c])
    have hf : (flush cur).length ≤ (if cur = [] then 0 else 1) := by cases cur <;> simp [flush]
    simp only [if_true] at h1
    rw [if_neg (by simp)] at h2
    unfold wordsGo
    split
    · rw [List.length_append, List.length_cons]; omega
    · split
      · rw [List.length_append, List.length_cons, List.length_cons]; omega
      · rw [List.length_cons]; omega
theorem wordsOf_len (s : ByteArray) : (wordsOf s).length ≤ 2 * s.size := by
  unfold wordsOf
  rw [List.length_map]
  have := wordsGo_len s.data.toList []
  simp only [if_true] at this
  rw [← size_len] at this
  omega
theorem blank_iff (c : UInt8) : blank c = (((c.toNat : Int) == 32) || ((c.toNat : Int) == 10)) := by
  unfold blank
  rw [Bool.eq_iff_iff]
  simp only [Bool.or_eq_true, beq_iff_eq]
  constructor
  · rintro (rfl | rfl)
    · exact .inl rfl
    · exact .inr rfl
  · rintro (h | h)
    · exact .inl (UInt8.toNat_inj.1 (show c.toNat = 32 by omega))
    · exact .inr (UInt8.toNat_inj.1 (show c.toNat = 10 by omega))
theorem bracket_iff (c : UInt8) : bracket c = (((c.toNat : Int) == 40) || ((c.toNat : Int) == 41)) := by
  unfold bracket
  rw [Bool.eq_iff_iff]
  simp only [Bool.or_eq_true, beq_iff_eq]
  constructor
  · rintro (rfl | rfl)
    · exact .inl rfl
    · exact .inr rfl
  · rintro (h | h)
    · exact .inl (UInt8.toNat_inj.1 (show c.toNat = 40 by omega))
    · exact .inr (UInt8.toNat_inj.1 (show c.toNat = 41 by omega))
end Go.Proofs.Ytkegbdlbaanapaa
