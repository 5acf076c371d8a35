/- The walk of spec.l23Num and spec.LexNum. No conditions. -/
import Derived.Test.YtkegbdlbaanapaaWd
namespace Go.Proofs.Ytkegbdlbaanapaa
open Go.RowKit Go.PlainAid

theorem numZ_pre (s : ByteArray) : ∀ k, k ≤ s.size → (s.data.toList.take k).all digit = true → 0 ≤ numZ (s.data.toList.take k) ∧ numZ (s.data.toList.take k) < 10 ^ k := by
  intro k
  induction k with
  | zero => intro _ _; exact ⟨by simp [numZ], by simp [numZ]⟩
  | succ k ih =>
    intro hk ha
    rw [all_snoc s digit k (by omega), Bool.and_eq_true] at ha
    obtain ⟨i1, i2⟩ := ih (by omega) ha.1
    have hd := digit_lo ha.2
    rw [numZ_step s k (by omega)]
    have e : (10 : Int) ^ (k + 1) = 10 ^ k * 10 := by rw [Int.pow_succ]
    rw [e]
    generalize (10 : Int) ^ k = P at *
    generalize numZ (s.data.toList.take k) = N at *
    omega
theorem okN_of_dec {neg : Bool} {l : List UInt8} (h : decB l = false) : okN neg l = false ∧ valN neg l = 0 := by
  have e : okN neg l = false := by unfold okN; rw [h]; rfl
  exact ⟨e, by unfold valN; rw [e]; rfl⟩
theorem okN_of_zero {l : List UInt8} (h : headZero l = true) : okN true l = false ∧ valN true l = 0 := by
  have e : okN true l = false := by
    unfold okN
    match l, h with
    | [a], h =>
      have : a = 48 := by simpa [headZero] using h
      subst this; simp
    | a :: b :: t, h => rw [decB_zero (by simp) h]; rfl
  exact ⟨e, by unfold valN; rw [e]; rfl⟩
theorem okN_true {l : List UInt8} (h : decB l = true) (hz : headZero l = false) : okN true l = true ∧ valN true l = - numZ l := by
  have e : okN true l = true := by
    unfold okN
    rw [h]
    have : (l == [48]) = false := by
      rw [beq_eq_false_iff_ne]
      rintro rfl
      simp [headZero] at hz
    rw [this]; rfl
  exact ⟨e, by unfold valN; rw [e]; rfl⟩
theorem okN_false {l : List UInt8} (h : decB l = true) : okN false l = true ∧ valN false l = numZ l := by
  have e : okN false l = true := by unfold okN; rw [h]; rfl
  exact ⟨e, by unfold valN; rw [e]; rfl⟩

set_option maxHeartbeats 1000000 in
theorem l23Num_neg (s d : ByteArray) (hd : s.extract 1 s.size = d) (h0 : 0 < s.size) (h45 : s[0] = 45) (w : World) :
    Calls Try.prog 50 #[.string s] w fun e w' => e = .returned (.tuple #[.int .i64 (valN true d.data.toList), .bool (okN true d.data.toList)]) ∧ w = w' := by
  have hn : ((s[0].toNat : Int) == 45) = true := by rw [h45]; rfl
  clear h45
  by_cases h1 : d.size < 1
  · have hb0 : ((d.size : Int) == 0) = true := by rw [beq_iff_eq]; omega
    obtain ⟨e1, e2⟩ := okN_of_dec (neg := true) (decB_short (l := d.data.toList) (by rw [← size_len]; omega))
    have E1 := hide e1
    have E2 := hide e2
    clear e1 e2
    go_enter Try.func50, Try.ntmps50
    go_wp2
    go_ret2
    exact ⟨ret_num (unhide E2).symm (unhide E1).symm, rfl⟩
  have hb0 : ((d.size : Int) == 0) = false := by rw [beq_eq_false_iff_ne]; omega
  by_cases h8 : 17 < d.size
  · obtain ⟨e1, e2⟩ := okN_of_dec (neg := true) (decB_long (l := d.data.toList) (by rw [← size_len]; omega))
    have E1 := hide e1
    have E2 := hide e2
    clear e1 e2
    go_enter Try.func50, Try.ntmps50
    go_wp2
    go_ret2
    exact ⟨ret_num (unhide E2).symm (unhide E1).symm, rfl⟩
  have hd0 : 0 < d.size := by omega
  have hhz := headZero_at d hd0
  cases hz : headZero d.data.toList with
  | true =>
    obtain ⟨e1, e2⟩ := okN_of_zero hz
    have E1 := hide e1
    have E2 := hide e2
    have hzb : (((d[0]'hd0).toNat : Int) == 48) = true := by
      rw [hhz, beq_iff_eq] at hz
      rw [hz]; rfl
    clear e1 e2 hz hhz
    by_cases hone : 1 < d.size
    all_goals
      go_enter Try.func50, Try.ntmps50
      go_wp2
      go_ret2
      exact ⟨ret_num (unhide E2).symm (unhide E1).symm, rfl⟩
  | false =>
  have hzb : (((d[0]'hd0).toNat : Int) == 48) = false := by
    rw [hhz, beq_eq_false_iff_ne] at hz
    rw [beq_eq_false_iff_ne]
    intro e
    exact hz (UInt8.toNat_inj.1 (show _ = 48 by omega))
  have HH := hide hz
  have HZ : Hid (¬ 1 < d.data.toList.length ∨ headZero d.data.toList = false) := hide (.inr hz)
  clear hz hhz
  go_enter Try.func50, Try.ntmps50
  go_wp2
  clear hzb hn
  go_loop [5, 6] (fun n i => ∃ k : Nat, k ≤ d.size ∧ i = .int .i64 k ∧ n = .int .i64 (numZ (d.data.toList.take k)) ∧ Hid ((d.data.toList.take k).all digit = true)) (fun _ i => d.size - (intOf i).toNat)
  case atStart => exact ⟨0, Nat.zero_le _, rfl, rfl, hide rfl⟩
  case round =>
    obtain ⟨k, hle, rfl, rfl, HA⟩ := hrel
    obtain ⟨n0, n1⟩ := numZ_pre d k hle (unhide HA)
    have n2 := pow_le17 k (by omega)
    have n3 : numZ (d.data.toList.take k) < 100000000000000000 := by omega
    clear n1 n2
    by_cases hp : k < d.size
    · by_cases g1 : (d[k]'hp).toNat < 48
      · obtain ⟨e1, e2⟩ := okN_of_dec (neg := true) (decB_bad (all_bad d digit k hp (digit_no (.inl g1))))
        have E1 := hide e1
        have E2 := hide e2
        clear e1 e2
        go_wp2
        go_ret2
        exact ⟨ret_num (unhide E2).symm (unhide E1).symm, rfl⟩
      by_cases g2 : 57 < (d[k]'hp).toNat
      · obtain ⟨e1, e2⟩ := okN_of_dec (neg := true) (decB_bad (all_bad d digit k hp (digit_no (.inr g2))))
        have E1 := hide e1
        have E2 := hide e2
        clear e1 e2
        go_wp2
        go_ret2
        exact ⟨ret_num (unhide E2).symm (unhide E1).symm, rfl⟩
      have HS := hide (numZ_step d k hp)
      go_wp2
      go_round
      case rel => exact ⟨k + 1, by omega, by go_num, by rw [unhide HS], hide (by rw [all_snoc d digit k hp, unhide HA, digit_yes (by omega) (by omega)]; rfl)⟩
      case measure => simp [intOf]; omega
    · have hgood : decB d.data.toList = true := decB_good (by rw [← size_len]; omega) (by rw [← size_len]; omega) (unhide HZ) (by rw [← all_end d digit k hp]; exact unhide HA)
      obtain ⟨e1, e2⟩ := okN_true hgood (unhide HH)
      have E1 := hide e1
      have E2 := hide e2
      clear e1 e2 hgood
      rw [take_all d k hp] at n0 n3 ⊢
      go_wp2
      go_ret2
      exact ⟨ret_num (unhide E2).symm (unhide E1).symm, rfl⟩

set_option maxHeartbeats 1000000 in
theorem l23Num_pos (d : ByteArray) (h45 : ∀ h0 : 0 < d.size, d[0] ≠ 45) (w : World) :
    Calls Try.prog 50 #[.string d] w fun e w' => e = .returned (.tuple #[.int .i64 (valN false d.data.toList), .bool (okN false d.data.toList)]) ∧ w = w' := by
  by_cases h1 : d.size < 1
  · obtain ⟨e1, e2⟩ := okN_of_dec (neg := false) (decB_short (l := d.data.toList) (by rw [← size_len]; omega))
    have E1 := hide e1
    have E2 := hide e2
    have hb0 : ((d.size : Int) == 0) = true := by rw [beq_iff_eq]; omega
    have hg : ¬ (0 : Int) < (d.size : Int) := by omega
    clear e1 e2 h45
    go_enter Try.func50, Try.ntmps50
    go_wp2
    go_ret2
    exact ⟨ret_num (unhide E2).symm (unhide E1).symm, rfl⟩
  have hd0 : 0 < d.size := by omega
  have hb0 : ((d.size : Int) == 0) = false := by rw [beq_eq_false_iff_ne]; omega
  have hn : (((d[0]'hd0).toNat : Int) == 45) = false := by
    rw [beq_eq_false_iff_ne]
    intro e
    exact h45 hd0 (UInt8.toNat_inj.1 (show _ = 45 by omega))
  clear h45
  by_cases h8 : 17 < d.size
  · obtain ⟨e1, e2⟩ := okN_of_dec (neg := false) (decB_long (l := d.data.toList) (by rw [← size_len]; omega))
    have E1 := hide e1
    have E2 := hide e2
    clear e1 e2
    go_enter Try.func50, Try.ntmps50
    go_wp2
    go_ret2
    exact ⟨ret_num (unhide E2).symm (unhide E1).symm, rfl⟩
  have hhz := headZero_at d hd0
  cases hz : headZero d.data.toList with
  | true =>
    have hzb : (((d[0]'hd0).toNat : Int) == 48) = true := by
      rw [hhz, beq_iff_eq] at hz
      rw [hz]; rfl
    by_cases hone : 1 < d.size
    · obtain ⟨e1, e2⟩ := okN_of_dec (neg := false) (decB_zero (l := d.data.toList) (by rw [← size_len]; omega) hz)
      have E1 := hide e1
      have E2 := hide e2
      clear e1 e2 hz hhz
      go_enter Try.func50, Try.ntmps50
      go_wp2
      go_ret2
      exact ⟨ret_num (unhide E2).symm (unhide E1).symm, rfl⟩
    · have HZ : Hid (¬ 1 < d.data.toList.length ∨ headZero d.data.toList = false) := hide (.inl (by rw [← size_len]; exact hone))
      clear hz hhz
      go_enter Try.func50, Try.ntmps50
      go_wp2
      clear hzb hn
      go_loop [5, 6] (fun n i => ∃ k : Nat, k ≤ d.size ∧ i = .int .i64 k ∧ n = .int .i64 (numZ (d.data.toList.take k)) ∧ Hid ((d.data.toList.take k).all digit = true)) (fun _ i => d.size - (intOf i).toNat)
      case atStart => exact ⟨0, Nat.zero_le _, rfl, rfl, hide rfl⟩
      case round =>
        obtain ⟨k, hle, rfl, rfl, HA⟩ := hrel
        obtain ⟨n0, n1⟩ := numZ_pre d k hle (unhide HA)
        have n2 := pow_le17 k (by omega)
        have n3 : numZ (d.data.toList.take k) < 100000000000000000 := by omega
        clear n1 n2
        by_cases hp : k < d.size
        · by_cases g1 : (d[k]'hp).toNat < 48
          · obtain ⟨e1, e2⟩ := okN_of_dec (neg := false) (decB_bad (all_bad d digit k hp (digit_no (.inl g1))))
            have E1 := hide e1
            have E2 := hide e2
            clear e1 e2
            go_wp2
            go_ret2
            exact ⟨ret_num (unhide E2).symm (unhide E1).symm, rfl⟩
          by_cases g2 : 57 < (d[k]'hp).toNat
          · obtain ⟨e1, e2⟩ := okN_of_dec (neg := false) (decB_bad (all_bad d digit k hp (digit_no (.inr g2))))
            have E1 := hide e1
            have E2 := hide e2
            clear e1 e2
            go_wp2
            go_ret2
            exact ⟨ret_num (unhide E2).symm (unhide E1).symm, rfl⟩
          have HS := hide (numZ_step d k hp)
          go_wp2
          go_round
          case rel => exact ⟨k + 1, by omega, by go_num, by rw [unhide HS], hide (by rw [all_snoc d digit k hp, unhide HA, digit_yes (by omega) (by omega)]; rfl)⟩
          case measure => simp [intOf]; omega
        · have hgood : decB d.data.toList = true := decB_good (by rw [← size_len]; omega) (by rw [← size_len]; omega) (unhide HZ) (by rw [← all_end d digit k hp]; exact unhide HA)
          obtain ⟨e1, e2⟩ := okN_false hgood
          have E1 := hide e1
          have E2 := hide e2
          clear e1 e2 hgood
          rw [take_all d k hp] at n0 n3 ⊢
          go_wp2
          go_ret2
          exact ⟨ret_num (unhide E2).symm (unhide E1).symm, rfl⟩
  | false =>
  have hzb : (((d[0]'hd0).toNat : Int) == 48) = false := by
    rw [hhz, beq_eq_false_iff_ne] at hz
    rw [beq_eq_false_iff_ne]
    intro e
    exact hz (UInt8.toNat_inj.1 (show _ = 48 by omega))
  have HZ : Hid (¬ 1 < d.data.toList.length ∨ headZero d.data.toList = false) := hide (.inr hz)
  clear hz hhz
  go_enter Try.func50, Try.ntmps50
  go_wp2
  clear hzb hn
  go_loop [5, 6] (fun n i => ∃ k : Nat, k ≤ d.size ∧ i = .int .i64 k ∧ n = .int .i64 (numZ (d.data.toList.take k)) ∧ Hid ((d.data.toList.take k).all digit = true)) (fun _ i => d.size - (intOf i).toNat)
  case atStart => exact ⟨0, Nat.zero_le _, rfl, rfl, hide rfl⟩
  case round =>
    obtain ⟨k, hle, rfl, rfl, HA⟩ := hrel
    obtain ⟨n0, n1⟩ := numZ_pre d k hle (unhide HA)
    have n2 := pow_le17 k (by omega)
    have n3 : numZ (d.data.toList.take k) < 100000000000000000 := by omega
    clear n1 n2
    by_cases hp : k < d.size
    · by_cases g1 : (d[k]'hp).toNat < 48
      · obtain ⟨e1, e2⟩ := okN_of_dec (neg := false) (decB_bad (all_bad d digit k hp (digit_no (.inl g1))))
        have E1 := hide e1
        have E2 := hide e2
        clear e1 e2
        go_wp2
        go_ret2
        exact ⟨ret_num (unhide E2).symm (unhide E1).symm, rfl⟩
      by_cases g2 : 57 < (d[k]'hp).toNat
      · obtain ⟨e1, e2⟩ := okN_of_dec (neg := false) (decB_bad (all_bad d digit k hp (digit_no (.inr g2))))
        have E1 := hide e1
        have E2 := hide e2
        clear e1 e2
        go_wp2
        go_ret2
        exact ⟨ret_num (unhide E2).symm (unhide E1).symm, rfl⟩
      have HS := hide (numZ_step d k hp)
      go_wp2
      go_round
      case rel => exact ⟨k + 1, by omega, by go_num, by rw [unhide HS], hide (by rw [all_snoc d digit k hp, unhide HA, digit_yes (by omega) (by omega)]; rfl)⟩
      case measure => simp [intOf]; omega
    · have hgood : decB d.data.toList = true := decB_good (by rw [← size_len]; omega) (by rw [← size_len]; omega) (unhide HZ) (by rw [← all_end d digit k hp]; exact unhide HA)
      obtain ⟨e1, e2⟩ := okN_false hgood
      have E1 := hide e1
      have E2 := hide e2
      clear e1 e2 hgood
      rw [take_all d k hp] at n0 n3 ⊢
      go_wp2
      go_ret2
      exact ⟨ret_num (unhide E2).symm (unhide E1).symm, rfl⟩

def negB (s : ByteArray) : Bool := s.data.toList.head? == some 45
def digs (s : ByteArray) : ByteArray := if negB s = true then s.extract 1 s.size else s
theorem negB_at (s : ByteArray) (h : 0 < s.size) : negB s = (s[0] == 45) := by
  obtain ⟨⟨l⟩⟩ := s
  cases l with
  | nil => simp [ByteArray.size] at h
  | cons a t => simp [negB]; rfl
theorem negB_no {s : ByteArray} (h : negB s = false) : ∀ h0 : 0 < s.size, s[0] ≠ 45 := by
  intro h0
  rw [negB_at s h0, beq_eq_false_iff_ne] at h
  exact h
theorem negB_yes {s : ByteArray} (h : negB s = true) : ∃ h0 : 0 < s.size, s[0] = 45 := by
  have h0 : 0 < s.size := by
    obtain ⟨⟨l⟩⟩ := s
    cases l with
    | nil => simp [negB] at h
    | cons a t => simp [ByteArray.size]
  rw [negB_at s h0, beq_iff_eq] at h
  exact ⟨h0, h⟩
/-- What a word is as a number, and whether it is one. -/
def numV (s : ByteArray) : Int := valN (negB s) (digs s).data.toList
def numB (s : ByteArray) : Bool := okN (negB s) (digs s).data.toList
theorem l23Num_any (s : ByteArray) (w : World) :
    Calls Try.prog 50 #[.string s] w fun e w' => e = .returned (.tuple #[.int .i64 (numV s), .bool (numB s)]) ∧ w = w' := by
  unfold numV numB digs
  cases h : negB s with
  | true =>
    obtain ⟨h0, h45⟩ := negB_yes h
    exact l23Num_neg s _ rfl h0 h45 w
  | false => exact l23Num_pos s (negB_no h) w
theorem LexNumI_any (s : ByteArray) (w : World) :
    Calls Try.prog 23 #[.string s] w fun e w' => e = .returned (.tuple #[.int .i64 (numV s), .bool (numB s)]) ∧ Below w.heap.size w w' := by
  unfold numV numB digs
  cases h : negB s with
  | true =>
    obtain ⟨h0, h45⟩ := negB_yes h
    exact LexNumI_of s _ true (minus_cut s h0 h45) w
  | false => exact LexNumI_of s _ false (cut_no s (negB_no h)) w
theorem LexNumS_any (s : ByteArray) (w : World) :
    Calls Try.prog 24 #[.string s] w fun e w' => e = .returned (.tuple #[.int .i64 (numV s), .bool (numB s)]) ∧ w = w' := by
  go_enter Try.func24, Try.ntmps24
  go_wp2_with fail
  refine (l23Num_any _ _).mono ?_
  rintro e w' ⟨rfl, rfl⟩
  go_wp2
  go_ret2
  exact ⟨rfl, rfl⟩
end Go.Proofs.Ytkegbdlbaanapaa
