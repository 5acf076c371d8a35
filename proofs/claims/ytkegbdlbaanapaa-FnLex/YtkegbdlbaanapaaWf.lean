/- The walks of spec.l23Find, strings.Cut at a point, strings.Clone, impl.LexDot and spec.LexDot. No conditions but that the text is a Go string. -/
import Derived.Test.YtkegbdlbaanapaaWb
import Derived.Test.YtkegbdlbaanapaaShelf
import Derived.Lib.IndexLaws
import Derived.Deep.QuietTactic
import Derived.BigQuiet
namespace Go.Proofs.Ytkegbdlbaanapaa
open Go.RowKit Go.PlainAid

theorem get_data (s : ByteArray) (k : Nat) (h : k < s.size) : s.data.toList[k]? = some s[k] := by
  rw [Array.getElem?_toList]
  exact Array.getElem?_eq_getElem h
theorem find_at (s : ByteArray) (c : UInt8) (k : Nat) (h : k < s.size) (hb : ∀ j (hj : j < k), (s[j]'(by omega)) ≠ c) (he : s[k] = c) : Lib.indexByte s.data.toList c = k := by
  have hg := Lib.indexByte_ge s.data.toList c
  rcases Int.lt_or_le (Lib.indexByte s.data.toList c) 0 with h0 | h0
  · exact absurd (by rw [get_data s k h, he]) (Lib.indexByte_none (l := s.data.toList) (c := c) (by omega) k)
  · obtain ⟨o, ho⟩ := Int.eq_ofNat_of_zero_le h0
    obtain ⟨h1, h2⟩ := Lib.indexByte_some ho
    rw [ho]
    rcases Nat.lt_trichotomy o k with h3 | h3 | h3
    · rw [get_data s o (by omega)] at h1
      exact absurd (Option.some.inj h1) (hb o h3)
    · rw [h3]
    · exact absurd (by rw [get_data s k h, he]) (h2 k h3)
theorem find_none (s : ByteArray) (c : UInt8) (hb : ∀ j (hj : j < s.size), s[j] ≠ c) : Lib.indexByte s.data.toList c = -1 := by
  have hg := Lib.indexByte_ge s.data.toList c
  rcases Int.lt_or_le (Lib.indexByte s.data.toList c) 0 with h0 | h0
  · omega
  · obtain ⟨o, ho⟩ := Int.eq_ofNat_of_zero_le h0
    obtain ⟨h1, _⟩ := Lib.indexByte_some ho
    by_cases h : o < s.size
    · rw [get_data s o h] at h1
      exact absurd (Option.some.inj h1) (hb o h)
    · rw [List.getElem?_eq_none (by rw [← size_len]; omega)] at h1
      cases h1
theorem find_lt (s : ByteArray) (c : UInt8) (o : Nat) (h : Lib.indexByte s.data.toList c = o) : o < s.size := by
  obtain ⟨h1, _⟩ := Lib.indexByte_some h
  rcases Nat.lt_or_ge o s.size with h2 | h2
  · exact h2
  · rw [List.getElem?_eq_none (by rw [← size_len]; omega)] at h1
    cases h1

set_option maxHeartbeats 400000 in
theorem l23Find_any (s : ByteArray) (c : UInt8) (w : World) (hs : s.size ≤ maxLen) :
    Calls Try.prog 52 #[.string s, .int .u8 c.toNat] w fun e w' => e = .returned (.int .i64 (Lib.indexByte s.data.toList c)) ∧ w = w' := by
  unfold maxLen at hs
  go_enter Try.func52, Try.ntmps52
  go_wp2
  go_loop [5] (fun i => ∃ k : Nat, k ≤ s.size ∧ i = .int .i64 k ∧ Hid (∀ j (hj : j < s.size), j < k → s[j] ≠ c)) (fun i => s.size - (intOf i).toNat)
  case atStart => exact ⟨0, Nat.zero_le _, rfl, hide (fun j _ h => absurd h (Nat.not_lt_zero _))⟩
  case round =>
    obtain ⟨k, hk, rfl, HN⟩ := hrel
    by_cases hp : k < s.size
    · by_cases he : s[k] = c
      · have HF := hide (find_at s c k hp (fun j hj => unhide HN j (by omega) hj) he)
        have hb : (((s[k]'hp).toNat : Int) == (c.toNat : Int)) = true := by rw [he]; simp
        clear he
        go_wp2
        go_ret
        exact ⟨ret_int (unhide HF).symm, rfl⟩
      · have hb : (((s[k]'hp).toNat : Int) == (c.toNat : Int)) = false := by
          rw [beq_eq_false_iff_ne]
          intro e
          exact he (UInt8.toNat_inj.1 (by omega))
        have HE := hide he
        clear he
        go_wp2
        go_round
        case rel =>
          refine ⟨k + 1, by omega, by go_num, hide (fun j hj hjk => ?_)⟩
          by_cases e : j = k
          · subst e; exact unhide HE
          · exact unhide HN j hj (by omega)
        case measure => simp [intOf]; omega
    · have HF := hide (find_none s c (fun j hj => unhide HN j hj (by omega)))
      go_wp2
      go_ret
      exact ⟨ret_int (unhide HF).symm, rfl⟩

theorem Clone_any (s : ByteArray) (w : World) (hs : s.size ≤ 281474976710656) :
    Calls Try.prog 40 #[.string s] w fun e w' => e = .returned (.string s) ∧ Below w.heap.size w w' := by
  go_enter Try.func40, Try.ntmps40
  go_wp2_with fail
  refine (Try.stringslite_Clone _ _ hs).mono ?_
  rintro e w1 ⟨rfl, hb⟩
  go_wp2
  go_ret
  exact ⟨rfl, hb⟩

set_option maxHeartbeats 400000 in
theorem LCut_yes (s : ByteArray) (k : Nat) (w : World) (hs : s.size ≤ maxLen) (h : Lib.indexByte s.data.toList 46 = k) :
    Calls Try.prog 58 #[.string s, .string ⟨#[46]⟩] w fun e w' => e = .returned (.tuple #[.string (s.extract 0 k), .string (s.extract (k + 1) s.size), .bool true]) ∧ Below w.heap.size w w' := by
  unfold maxLen at hs
  have hk := find_lt s 46 k h
  have H := hide h
  clear h
  go_enter Try.func58, Try.ntmps58
  go_wp2_with fail
  refine (Try.stringslite_Index_one _ _ _).mono ?_
  rintro e w' ⟨rfl, hw⟩
  obtain rfl := hw.symm
  rw [unhide H]
  go_wp2
  go_quiet (fail)
  go_wp2
  go_ret3
  exact ⟨rfl, below_drewN (Below.refl _ _) _⟩
theorem LCut_no (s : ByteArray) (w : World) (h : Lib.indexByte s.data.toList 46 = -1) :
    Calls Try.prog 58 #[.string s, .string ⟨#[46]⟩] w fun e w' => e = .returned (.tuple #[.string s, .string ⟨#[]⟩, .bool false]) ∧ w = w' := by
  have H := hide h
  clear h
  go_enter Try.func58, Try.ntmps58
  go_wp2_with fail
  refine (Try.stringslite_Index_one _ _ _).mono ?_
  rintro e w' ⟨rfl, hw⟩
  obtain rfl := hw.symm
  rw [unhide H]
  go_wp2
  go_ret3
  exact ⟨rfl, rfl⟩
theorem Cut_yes (s : ByteArray) (k : Nat) (w : World) (hs : s.size ≤ maxLen) (h : Lib.indexByte s.data.toList 46 = k) :
    Calls Try.prog 44 #[.string s, .string ⟨#[46]⟩] w fun e w' => e = .returned (.tuple #[.string (s.extract 0 k), .string (s.extract (k + 1) s.size), .bool true]) ∧ Below w.heap.size w w' := by
  have H := hide h
  have hS := hide hs
  clear h hs
  go_enter Try.func44, Try.ntmps44
  go_wp2_with fail
  refine (LCut_yes s k _ (unhide hS) (unhide H)).mono ?_
  rintro e w1 ⟨rfl, hb⟩
  go_wp2
  go_ret3
  exact ⟨rfl, hb⟩
theorem Cut_no (s : ByteArray) (w : World) (h : Lib.indexByte s.data.toList 46 = -1) :
    Calls Try.prog 44 #[.string s, .string ⟨#[46]⟩] w fun e w' => e = .returned (.tuple #[.string s, .string ⟨#[]⟩, .bool false]) ∧ w = w' := by
  have H := hide h
  clear h
  go_enter Try.func44, Try.ntmps44
  go_wp2_with fail
  refine (LCut_no s _ (unhide H)).mono ?_
  rintro e w1 ⟨rfl, rfl⟩
  go_wp2
  go_ret3
  exact ⟨rfl, rfl⟩

end Go.Proofs.Ytkegbdlbaanapaa
