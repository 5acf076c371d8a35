/- The walks of markText, markStringS and heldStringS. Conditions: the list is one that the call owns, of at most 100000 texts. -/
import Derived.Test.YtkegbdlbaanapaaXe
import Derived.Test.YtkegbdlbaanapaaDu
import Derived.Deep.RegionWith
namespace Go.Proofs.Ytkegbdlbaanapaa
open Go.RowKit Go.PlainAid

def mtF : Nat → Nat → List UInt8 → List UInt8
  | 0, _, out => out
  | f + 1, n, out => if 0 < n then mtF f (n / 10) (dig (n % 10) :: out) else out
/-- The mark of a number. -/
def mt (n : Nat) : ByteArray := ⟨(109 :: mtF 20 n []).toArray⟩

theorem mtF_go {f m : Nat} {acc : List UInt8} (h : 0 < m) : mtF (f + 1) m acc = mtF f (m / 10) (dig (m % 10) :: acc) := by rw [mtF, if_pos h]
theorem mtF_end {f m : Nat} {acc : List UInt8} (h : ¬ 0 < m) : mtF (f + 1) m acc = acc := by rw [mtF, if_neg h]
theorem mt_step {f m : Nat} (h : m < 10 ^ (f + 1)) : m / 10 < 10 ^ f := by rw [Nat.pow_succ] at h; exact Nat.div_lt_of_lt_mul (by omega)

set_option maxHeartbeats 400000 in
theorem markText_any (N : Nat) (h0 : 0 < N) (hN : N < 1000000000000) (w : World) :
    Calls Try.prog 51 #[.int .i64 N] w fun e w' => e = .returned (.string (mt N)) ∧ Below w.heap.size w w' := by
  go_enter Try.func51, Try.ntmps51
  go_wp2
  go_loopw [0, 3] (fun n o wr => ∃ (f m : Nat) (acc : List UInt8), n = .int .i64 m ∧ o = .string ⟨acc.toArray⟩ ∧ Hid (mtF (f + 1) m acc = mtF 20 N []) ∧ Hid (m < 10 ^ f) ∧ m < 1000000000000 ∧ acc.length + f ≤ 19 ∧ Hid (Below w.heap.size w wr)) (fun n _ _ => (intOf n).toNat)
  case atStart => exact ⟨19, N, [], rfl, rfl, hide rfl, hide (by omega), hN, by simp, hide (Below.refl _ _)⟩
  case round =>
    obtain ⟨f, m, acc, rfl, rfl, HF, HM, hm, hlf, HB⟩ := hrel
    have hl : acc.length ≤ 100 := by omega
    by_cases h9 : 0 < m
    · have hcv := fun W => conv1 W (48 + (m : Int) % 10) (dig (m % 10)) (by rw [dig_toNat _ (by omega)]; omega)
      cases f with
      | zero =>
        have := unhide HM
        simp at this
        omega
      | succ f =>
        have HG := hide (mt_step (unhide HM))
        have HE := hide (mtF_go (f := f + 1) (acc := acc) h9)
        go_wp2
        go_roundw
        case rel =>
          refine ⟨f, m / 10, dig (m % 10) :: acc, by go_num, by rw [cons_mk], hide ?_, HG, by omega, by simp; omega, hide ((unhide HB).alloc (unhide HB).size _)⟩
          rw [← unhide HE]; exact unhide HF
        case measure => simp [intOf]; omega
    · have HE : Hid (mt N = ⟨(109 :: acc).toArray⟩) := hide (by unfold mt; rw [← unhide HF, mtF_end h9])
      go_wp2
      go_ret
      exact ⟨ret_str (by rw [unhide HE]; exact cons_mk 109 acc), unhide HB⟩

theorem bn {w w1 w2 : World} (h : Below w.heap.size w w1) (k : Below w1.heap.size w1 w2) : Below w.heap.size w w2 := h.trans (k.mono h.size)
def marks (k0 n : Nat) : List ByteArray := (List.range n).map fun i => mt (k0 + i)
theorem marks_len (k0 n : Nat) : (marks k0 n).length = n := by unfold marks; simp
theorem marks_at (k0 n j : Nat) (h : j < (marks k0 n).length) : (marks k0 n)[j] = mt (k0 + j) := by simp only [marks, List.getElem_map, List.getElem_range]

set_option maxHeartbeats 400000 in
theorem heldStringS_any (a : Option Addr) (cap n : Nat) (w : World) (h : Words w w.heap.size a (marks 1 n)) (hn : n ≤ 100000) :
    Calls Try.prog 28 #[.slice a n cap, .int .i64 1] w fun e w' => e = .returned (.int .i64 (1 + n)) ∧ Below w.heap.size w w' := by
  have HW := hide h
  clear h
  go_enter Try.func28, Try.ntmps28
  go_wp2
  go_loopw [1, 5] (fun kk i wr => ∃ k : Nat, k ≤ n ∧ i = .int .i64 k ∧ kk = .int .i64 (1 + k) ∧ Hid (Below w.heap.size w wr)) (fun _ i _ => n - (intOf i).toNat)
  case atStart => exact ⟨0, Nat.zero_le _, rfl, rfl, hide (Below.refl _ _)⟩
  case round =>
    obtain ⟨k, hk, rfl, rfl, HB⟩ := hrel
    by_cases hp : k < n
    · rcases (unhide HW).kept (unhide HB) (Nat.le_refl _) with h | ⟨b, off, rfl, hb, hc⟩
      · have : (marks 1 n).length = 0 := by rw [h]; rfl
        rw [marks_len] at this
        omega
      have hck : wr.cell? ⟨b, off + k, none⟩ = some (.string (mt (1 + k))) := by
        rw [hc k (by rw [marks_len]; exact hp), marks_at]
      have hck2 : ∀ w' : World, Below w.heap.size w w' → w'.cell? ⟨b, off + k, none⟩ = some (.string (mt (1 + k))) := fun w' hb' => by
        rcases (unhide HW).kept hb' (Nat.le_refl _) with h | ⟨b2, off2, e, _, hc2⟩
        · have : (marks 1 n).length = 0 := by rw [h]; rfl
          rw [marks_len] at this
          omega
        · cases e
          rw [hc2 k (by rw [marks_len]; exact hp), marks_at]
      have HC2 := hide hck2
      have HKK := hide (show (1 : Int) + (k : Int) = ((1 + k : Nat) : Int) by omega)
      clear hc hck2
      go_wp2
      go_region_with (go_at_call 51; rw [unhide HKK]; refine (markText_any (1 + k) (by omega) (by omega) _).mono ?_; rintro e w1 ⟨rfl, hb1⟩; have hck1 := unhide HC2 w1 (bn (unhide HB).drew hb1))
      all_goals
        go_wp2
        go_roundw
        case rel => exact ⟨k + 1, by omega, by go_num, by go_num, hide (bn (unhide HB).drew hb1)⟩
        case measure => simp [intOf]; omega
    · go_wp2
      go_ret
      exact ⟨ret_int (by omega), unhide HB⟩
end Go.Proofs.Ytkegbdlbaanapaa
