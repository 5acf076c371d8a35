/- The walk of markText. Conditions: the number is above 0 and below 10 to the 12. -/
import Derived.Test.YtkiaidjkhhljhaaFa
namespace Go.Proofs.Ytkiaidjkhhljhaa
open Go.RowKit Go.PlainAid

def dig (n : Nat) : UInt8 := UInt8.ofNat (48 + n)
theorem dig_toNat (n : Nat) (h : n ≤ 9) : (dig n).toNat = 48 + n := by
  unfold dig
  rw [UInt8.toNat_ofNat']
  exact Nat.mod_eq_of_lt (by omega)
theorem conv1 (W : World) (z : Int) (c : UInt8) (h : (c.toNat : Int) = z) : (convert 108 9 (.slice (some ⟨W.heap.size, 0, none⟩) 1 1)).run Try.prog (W.alloc (.cells #[.int .u8 z] 5)) = .ok (.string ⟨#[c]⟩) (W.alloc (.cells #[.int .u8 z] 5)) := by
  have h1 := run_convert_bytes_back (P := Try.prog) (W.alloc (.cells #[.int .u8 z] 5)) 108 9 5 ⟨W.heap.size, 0, none⟩ 1 [c] Try.underlying108 Try.underlying5 Try.underlying9 (fun j hj => by
    have : j = 0 := by simpa using hj
    subst this
    simp [Addr.add, h])
  simpa using h1
theorem cons_mk (c : UInt8) (acc : List UInt8) : (⟨#[c]⟩ ++ ⟨acc.toArray⟩ : ByteArray) = ⟨(c :: acc).toArray⟩ := by
  have := ByteArray.mk_append_mk [c] acc
  simpa using this
theorem ret_str {a b : ByteArray} (h : a = b) : Ending.returned (.string a) = .returned (.string b) := by rw [h]
def mtF : Nat → Nat → List UInt8 → List UInt8
  | 0, _, out => out
  | f + 1, n, out => if 0 < n then mtF f (n / 10) (dig (n % 10) :: out) else out
/-- The mark of a number. -/
def mt (n : Nat) : ByteArray := ⟨(109 :: mtF 20 n []).toArray⟩

theorem mtF_go {f m : Nat} {acc : List UInt8} (h : 0 < m) : mtF (f + 1) m acc = mtF f (m / 10) (dig (m % 10) :: acc) := by rw [mtF, if_pos h]
theorem mtF_end {f m : Nat} {acc : List UInt8} (h : ¬ 0 < m) : mtF (f + 1) m acc = acc := by rw [mtF, if_neg h]
theorem mt_step {f m : Nat} (h : m < 10 ^ (f + 1)) : m / 10 < 10 ^ f := by rw [Nat.pow_succ] at h; exact Nat.div_lt_of_lt_mul (by omega)

set_option maxHeartbeats 400000 in
theorem markText_any (N : Nat) (h0 : 0 < N) (hN : N < 1000000000000) (w : World) :
    Calls Try.prog 45 #[.int .i64 N] w fun e w' => e = .returned (.string (mt N)) ∧ Below w.heap.size w w' := by
  go_enter Try.func45, Try.ntmps45
  go_wp2
  go_loopw [0, 3] (fun n o wr => ∃ (f m : Nat) (acc : List UInt8), n = .int .i64 m ∧ o = .string ⟨acc.toArray⟩ ∧ Hid (mtF (f + 1) m acc = mtF 20 N []) ∧ Hid (m < 10 ^ f) ∧ m < 1000000000000 ∧ acc.length + f ≤ 19 ∧ Hid (Below w.heap.size w wr)) (fun n _ _ => (intOf n).toNat)
  case atStart => exact ⟨19, N, [], rfl, rfl, hide rfl, hide (by omega), hN, by simp, hide (Below.refl _ _)⟩
  case round =>
    obtain ⟨f, m, acc, rfl, rfl, HF, HM, hm, hlf, HB⟩ := hrel
    have hl : acc.length ≤ 100 := by omega
    by_cases h9 : 0 < m
    · have hcv := fun W => conv1 W (48 + (m : Int) % 10) (dig (m % 10)) (by rw [dig_toNat _ (by omega)]; omega)
      cases f with
      | zero =>
        have := unhide HM
        simp at this
        omega
      | succ f =>
        have HG := hide (mt_step (unhide HM))
        have HE := hide (mtF_go (f := f + 1) (acc := acc) h9)
        go_wp2
        go_roundw
        case rel =>
          refine ⟨f, m / 10, dig (m % 10) :: acc, by go_num, by rw [cons_mk], hide ?_, HG, by omega, by simp; omega, hide ((unhide HB).alloc (unhide HB).size _)⟩
          rw [← unhide HE]; exact unhide HF
        case measure => simp [intOf]; omega
    · have HE : Hid (mt N = ⟨(109 :: acc).toArray⟩) := hide (by unfold mt; rw [← unhide HF, mtF_end h9])
      go_wp2
      go_ret
      exact ⟨ret_str (by rw [unhide HE]; exact cons_mk 109 acc), unhide HB⟩

end Go.Proofs.Ytkiaidjkhhljhaa
