/- The walks of the reader of drawn bytes: l23Open, pick, of. Conditions: the slice that was handed in can be read. -/
import Derived.Test.YtjnahhalgckggaaPlain
import Derived.Deep.QuietTactic
import Derived.BigQuiet
namespace Go.Proofs.Ytjnahhalgckggaa
open Go.RowKit Go.PlainAid

/-- A slice of bytes that can be read, all of it below the block n. -/
def Src (w : World) (n : Nat) (a : Option Addr) (len : Nat) : Prop :=
  len = 0 ∨ ∃ (b off : Nat) (f : Nat → Int), a = some ⟨b, off, none⟩ ∧ b < n ∧ (∀ j, 0 ≤ f j ∧ f j ≤ 255) ∧ ∀ j, j < len → w.cell? ⟨b, off + j, none⟩ = some (.int .u8 (f j))
/-- A reader in block B: its bytes and its place. -/
def IsRd (w : World) (B : Nat) (a : Option Addr) (len cap p : Nat) : Prop :=
  w.cell? ⟨B, 0, none⟩ = some (.slice a len cap) ∧ w.cell? ⟨B, 1, none⟩ = some (.int .i64 p) ∧ w.frozen? ⟨B, 1, none⟩ = false ∧ len ≤ 2000 ∧ Src w B a len

theorem xor_i64_nat (a b : Nat) (ha : a < 4611686018427387904) (hb : b < 4611686018427387904) : bits .xor .i64 (a : Int) (b : Int) = ((a ^^^ b : Nat) : Int) := by
  have hx : a ^^^ b < 2 ^ 62 := Nat.xor_lt_two_pow (by omega) (by omega)
  have h1 : (BitVec.ofInt 64 (a : Int)).toNat = a := by
    rw [BitVec.ofInt_natCast, BitVec.toNat_ofNat]; exact Nat.mod_eq_of_lt (by omega)
  have h2 : (BitVec.ofInt 64 (b : Int)).toNat = b := by
    rw [BitVec.ofInt_natCast, BitVec.toNat_ofNat]; exact Nat.mod_eq_of_lt (by omega)
  show IntKind.i64.wrap ((BitVec.ofInt 64 (a : Int) ^^^ BitVec.ofInt 64 (b : Int)).toNat : Int) = _
  rw [BitVec.toNat_xor, h1, h2, IntKind.wrap_i64]
  omega
theorem xor_i64_nonneg (a b : Int) (h1 : 0 ≤ a) (h2 : a < 4611686018427387904) (h3 : 0 ≤ b) (h4 : b < 4611686018427387904) : 0 ≤ bits .xor .i64 a b := by
  obtain ⟨A, rfl⟩ := Int.eq_ofNat_of_zero_le h1
  obtain ⟨B, rfl⟩ := Int.eq_ofNat_of_zero_le h3
  have e : bits .xor .i64 (A : Int) (B : Int) = ((A ^^^ B : Nat) : Int) := xor_i64_nat A B (by omega) (by omega)
  show 0 ≤ bits .xor .i64 (A : Int) (B : Int)
  rw [e]; omega

set_option maxHeartbeats 1000000 in
theorem pick_any (B : Nat) (a : Option Addr) (len cap p : Nat) (n : Int) (w : World) (h : IsRd w B a len cap p) (hp : p ≤ 1000000) (hn : n ≤ 1000000) :
    Calls Try.prog 18 #[.pointer (some ⟨B, 0, none⟩), .int .i64 n] w fun e w' => ∃ i : Int, e = .returned (.int .i64 i) ∧ 0 ≤ i ∧ (1 ≤ n → i < n) ∧ ∃ k, w' = (w.setCell ⟨B, 1, none⟩ (.int .i64 (p + 1))).drewN k := by
  obtain ⟨h1, h2, h3, h4, h5⟩ := h
  by_cases hn1 : n < 1
  · clear h5
    go_enter Try.func18, Try.ntmps18
    go_wp2
    go_ret
    exact ⟨0, rfl, by omega, by omega, 0, rfl⟩
  rcases h5 with h5 | ⟨b, off, f, rfl, hb, hf, hc⟩
  · subst h5
    go_enter Try.func18, Try.ntmps18
    go_wp2
    go_ret
    exact ⟨0, rfl, by omega, by omega, 0, rfl⟩
  by_cases hl : len = 0
  · subst hl
    clear hc
    go_enter Try.func18, Try.ntmps18
    go_wp2
    go_ret
    exact ⟨0, rfl, by omega, by omega, 0, rfl⟩
  have hl0 : ((len : Int) == 0) = false := by rw [beq_eq_false_iff_ne]; omega
  have hn0 : (n == 0) = false := by rw [beq_eq_false_iff_ne]; omega
  have hne : b ≠ B := by omega
  by_cases hpl : p < len
  · have hcp := hc p hpl
    obtain ⟨f0, f1⟩ := hf p
    clear hc hf
    generalize f p = z at *
    go_enter Try.func18, Try.ntmps18
    go_wp2
    go_ret
    refine ⟨_, rfl, ?_, ?_, 0, rfl⟩
    · exact Int.emod_nonneg _ (by omega)
    · exact Int.emod_lt_of_pos _ (by omega)
  have hk1 : p % len < len := Nat.mod_lt _ (by omega)
  have hi1 : 0 ≤ ((p : Int) * 7 + 3) % (len : Int) := Int.emod_nonneg _ (by omega)
  have hi2 : ((p : Int) * 7 + 3) % (len : Int) < (len : Int) := Int.emod_lt_of_pos _ (by omega)
  have hq0 : 0 ≤ (p : Int) / (len : Int) := Int.ediv_nonneg (by omega) (by omega)
  have hq1 : (p : Int) / (len : Int) ≤ 1000000 := by
    have := Int.ediv_le_self (a := (p : Int)) (len : Int) (by omega)
    omega
  have hc1 := hc _ hk1
  have hc2 := hc ((p * 7 + 3) % len) (Nat.mod_lt _ (by omega))
  have hf1 := hf (p % len)
  have hf2 := hf ((p * 7 + 3) % len)
  clear hc hf
  generalize f (p % len) = z1 at *
  generalize f ((p * 7 + 3) % len) = z2 at *
  obtain ⟨a1, a2⟩ := hf1
  obtain ⟨b1, b2⟩ := hf2
  go_enter Try.func18, Try.ntmps18
  go_wp2
  go_quiet (fail)
  go_wp2
  have hx := xor_i64_nonneg (z1 * 131 + z2 * 1117 + p * 29 + (p : Int) / len * 53) ((z1 * 131 + z2 * 1117 + p * 29 + (p : Int) / len * 53) / 64) (by omega) (by omega) (by omega) (by omega)
  go_ret
  refine ⟨_, rfl, ?_, ?_, _, rfl⟩
  · exact Int.tmod_nonneg _ hx
  · have hn2 : 0 < n := by omega
    exact fun _ => Int.tmod_lt_of_pos _ hn2
end Go.Proofs.Ytjnahhalgckggaa
