/- The walks of l23Dec and wlDec: a number is written in decimals. Conditions: above -10 to the 18, below 10 to the 18. -/
import Derived.Test.YtkegbdlbaanapaaDt
namespace Go.Proofs.Ytkegbdlbaanapaa
open Go.RowKit Go.PlainAid

def dig (n : Nat) : UInt8 := UInt8.ofNat (48 + n)
def decF : Nat → Nat → List UInt8 → List UInt8
  | 0, _, out => out
  | f + 1, n, out => if 9 < n then decF f (n / 10) (dig (n % 10) :: out) else dig n :: out
def dec (n : Nat) : ByteArray := ⟨(decF 20 n []).toArray⟩
/-- A number in decimals. -/
def decI (n : Int) : ByteArray := if n < 0 then ⟨#[45]⟩ ++ dec n.natAbs else dec n.toNat
theorem decF_len : ∀ (f n : Nat) (out : List UInt8), (decF f n out).length ≤ f + out.length
  | 0, _, out => by simp [decF]
  | f + 1, n, out => by
    unfold decF
    split
    · have := decF_len f (n / 10) (dig (n % 10) :: out)
      simp at this; omega
    · simp; omega
theorem dec_size (n : Nat) : (dec n).size ≤ 20 := by
  have := decF_len 20 n []
  show (decF 20 n []).toArray.size ≤ 20
  simpa using this
theorem decI_size (n : Int) : (decI n).size ≤ 21 := by
  unfold decI
  split
  · have := dec_size n.natAbs
    rw [ByteArray.size_append]
    show 1 + _ ≤ _
    omega
  · have := dec_size n.toNat
    omega
theorem dig_toNat (n : Nat) (h : n ≤ 9) : (dig n).toNat = 48 + n := by
  unfold dig
  rw [UInt8.toNat_ofNat']
  exact Nat.mod_eq_of_lt (by omega)
theorem conv1 (W : World) (z : Int) (c : UInt8) (h : (c.toNat : Int) = z) : (convert 22 9 (.slice (some ⟨W.heap.size, 0, none⟩) 1 1)).run Try.prog (W.alloc (.cells #[.int .u8 z] 5)) = .ok (.string ⟨#[c]⟩) (W.alloc (.cells #[.int .u8 z] 5)) := by
  have h1 := run_convert_bytes_back (P := Try.prog) (W.alloc (.cells #[.int .u8 z] 5)) 22 9 5 ⟨W.heap.size, 0, none⟩ 1 [c] Try.underlying22 Try.underlying5 Try.underlying9 (fun j hj => by
    have : j = 0 := by simpa using hj
    subst this
    simp [Addr.add, h])
  simpa using h1
theorem cons_mk (c : UInt8) (acc : List UInt8) : (⟨#[c]⟩ ++ ⟨acc.toArray⟩ : ByteArray) = ⟨(c :: acc).toArray⟩ := by
  have := ByteArray.mk_append_mk [c] acc
  simpa using this
theorem decF_go {f m : Nat} {acc : List UInt8} (h : 9 < m) : decF (f + 1) m acc = decF f (m / 10) (dig (m % 10) :: acc) := by
  rw [decF, if_pos h]
theorem decF_end {f m : Nat} {acc : List UInt8} (h : ¬ 9 < m) : decF (f + 1) m acc = dig m :: acc := by
  rw [decF, if_neg h]
theorem ret_str {a b : ByteArray} (h : a = b) : Ending.returned (.string a) = .returned (.string b) := by rw [h]
theorem fuel_step {f m : Nat} (h : m < 10 ^ f) (h9 : 9 < m) : ∃ g, f = g + 1 ∧ m / 10 < 10 ^ g := by
  cases f with
  | zero => simp at h; omega
  | succ g => exact ⟨g, rfl, by rw [Nat.pow_succ] at h; exact Nat.div_lt_of_lt_mul (by omega)⟩

set_option maxHeartbeats 400000 in
theorem wlDec_pos (N : Nat) (hN : N < 1000000000000000000) (w : World) :
    Calls Try.prog 25 #[.int .i64 N] w fun e w' => e = .returned (.string (dec N)) ∧ Below w.heap.size w w' := by
  go_enter Try.func25, Try.ntmps25
  go_wp2
  go_loopw [0, 3] (fun n o wr => ∃ (f m : Nat) (acc : List UInt8), n = .int .i64 m ∧ o = .string ⟨acc.toArray⟩ ∧ Hid (decF (f + 1) m acc = decF 20 N []) ∧ Hid (m < 10 ^ (f + 1)) ∧ m < 1000000000000000000 ∧ acc.length + f ≤ 20 ∧ Below w.heap.size w wr) (fun n _ _ => (intOf n).toNat)
  case atStart => exact ⟨19, N, [], rfl, rfl, hide rfl, hide (by omega), hN, by simp, Below.refl _ _⟩
  case round =>
    obtain ⟨f, m, acc, rfl, rfl, HF, HM, hm, hlf, hb⟩ := hrel
    by_cases h9 : 9 < m
    · have hcv := fun W => conv1 W (48 + (m : Int) % 10) (dig (m % 10)) (by rw [dig_toNat _ (by omega)]; omega)
      have hl : acc.length ≤ 100 := by omega
      obtain ⟨g, hg, hg2⟩ := fuel_step (unhide HM) h9
      obtain rfl : f = g := by omega
      have HG := hide hg2
      have HE := hide (decF_go (f := f) (acc := acc) h9)
      clear hg hg2
      go_wp2
      go_roundw
      case rel =>
        cases f with
        | zero =>
          have := unhide HG
          simp at this
          omega
        | succ f =>
          refine ⟨f, m / 10, dig (m % 10) :: acc, by go_num, by rw [cons_mk], hide ?_, HG, by omega, by simp; omega, hb.alloc hb.size _⟩
          rw [← unhide HE]; exact unhide HF
      case measure => simp [intOf]; omega
    · have hcv := fun W => conv1 W (48 + (m : Int)) (dig m) (by rw [dig_toNat _ (by omega)]; omega)
      have hl : acc.length ≤ 100 := by omega
      have HE : Hid (dec N = ⟨(dig m :: acc).toArray⟩) := hide (by unfold dec; rw [← unhide HF, decF_end h9])
      go_wp2
      go_ret
      exact ⟨ret_str (by rw [unhide HE, cons_mk]), hb.alloc hb.size _⟩

set_option maxHeartbeats 400000 in
theorem wlDec_any (n : Int) (h1 : -1000000000000000000 < n) (h2 : n < 1000000000000000000) (w : World) :
    Calls Try.prog 25 #[.int .i64 n] w fun e w' => e = .returned (.string (decI n)) ∧ Below w.heap.size w w' := by
  by_cases h : n < 0
  · obtain ⟨N, rfl⟩ : ∃ N : Nat, n = - (N : Int) := ⟨n.natAbs, by omega⟩
    have e : decI (- (N : Int)) = ⟨#[45]⟩ ++ dec N := by unfold decI; rw [if_pos h, Int.natAbs_neg, Int.natAbs_natCast]
    have E := hide e
    have hs := dec_size N
    clear e
    go_enter Try.func25, Try.ntmps25
    go_wp2_with fail
    refine (wlDec_pos N (by omega) _).mono ?_
    rintro e w1 ⟨rfl, hb⟩
    go_wp2
    go_ret
    exact ⟨ret_str (unhide E).symm, hb⟩
  · obtain ⟨N, rfl⟩ := Int.eq_ofNat_of_zero_le (show 0 ≤ n by omega)
    have e : decI (N : Int) = dec N := by unfold decI; rw [if_neg h, Int.toNat_natCast]
    rw [e]
    exact wlDec_pos N (by omega) w

set_option maxHeartbeats 400000 in
theorem l23Dec_pos (N : Nat) (hN : N < 1000000000000000000) (w : World) :
    Calls Try.prog 47 #[.int .i64 N] w fun e w' => e = .returned (.string (dec N)) ∧ Below w.heap.size w w' := by
  go_enter Try.func47, Try.ntmps47
  go_wp2
  go_loopw [0, 3] (fun n o wr => ∃ (f m : Nat) (acc : List UInt8), n = .int .i64 m ∧ o = .string ⟨acc.toArray⟩ ∧ Hid (decF (f + 1) m acc = decF 20 N []) ∧ Hid (m < 10 ^ (f + 1)) ∧ m < 1000000000000000000 ∧ acc.length + f ≤ 20 ∧ Below w.heap.size w wr) (fun n _ _ => (intOf n).toNat)
  case atStart => exact ⟨19, N, [], rfl, rfl, hide rfl, hide (by omega), hN, by simp, Below.refl _ _⟩
  case round =>
    obtain ⟨f, m, acc, rfl, rfl, HF, HM, hm, hlf, hb⟩ := hrel
    by_cases h9 : 9 < m
    · have hcv := fun W => conv1 W (48 + (m : Int) % 10) (dig (m % 10)) (by rw [dig_toNat _ (by omega)]; omega)
      have hl : acc.length ≤ 100 := by omega
      obtain ⟨g, hg, hg2⟩ := fuel_step (unhide HM) h9
      obtain rfl : f = g := by omega
      have HG := hide hg2
      have HE := hide (decF_go (f := f) (acc := acc) h9)
      clear hg hg2
      go_wp2
      go_roundw
      case rel =>
        cases f with
        | zero =>
          have := unhide HG
          simp at this
          omega
        | succ f =>
          refine ⟨f, m / 10, dig (m % 10) :: acc, by go_num, by rw [cons_mk], hide ?_, HG, by omega, by simp; omega, hb.alloc hb.size _⟩
          rw [← unhide HE]; exact unhide HF
      case measure => simp [intOf]; omega
    · have hcv := fun W => conv1 W (48 + (m : Int)) (dig m) (by rw [dig_toNat _ (by omega)]; omega)
      have hl : acc.length ≤ 100 := by omega
      have HE : Hid (dec N = ⟨(dig m :: acc).toArray⟩) := hide (by unfold dec; rw [← unhide HF, decF_end h9])
      go_wp2
      go_ret
      exact ⟨ret_str (by rw [unhide HE, cons_mk]), hb.alloc hb.size _⟩

set_option maxHeartbeats 400000 in
theorem l23Dec_any (n : Int) (h1 : -1000000000000000000 < n) (h2 : n < 1000000000000000000) (w : World) :
    Calls Try.prog 47 #[.int .i64 n] w fun e w' => e = .returned (.string (decI n)) ∧ Below w.heap.size w w' := by
  by_cases h : n < 0
  · obtain ⟨N, rfl⟩ : ∃ N : Nat, n = - (N : Int) := ⟨n.natAbs, by omega⟩
    have e : decI (- (N : Int)) = ⟨#[45]⟩ ++ dec N := by unfold decI; rw [if_pos h, Int.natAbs_neg, Int.natAbs_natCast]
    have E := hide e
    have hs := dec_size N
    clear e
    go_enter Try.func47, Try.ntmps47
    go_wp2_with fail
    refine (l23Dec_pos N (by omega) _).mono ?_
    rintro e w1 ⟨rfl, hb⟩
    go_wp2
    go_ret
    exact ⟨ret_str (unhide E).symm, hb⟩
  · obtain ⟨N, rfl⟩ := Int.eq_ofNat_of_zero_le (show 0 ≤ n by omega)
    have e : decI (N : Int) = dec N := by unfold decI; rw [if_neg h, Int.toNat_natCast]
    rw [e]
    exact l23Dec_pos N (by omega) w
end Go.Proofs.Ytkegbdlbaanapaa
