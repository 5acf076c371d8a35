/- The walk of impl.LexJoin. Conditions: the slice can be read, and its words together take at most 2^20 bytes. -/
import Derived.Test.YtkegbdlbaanapaaWh
import Derived.Test.YtkegbdlbaanapaaBa
namespace Go.Proofs.Ytkegbdlbaanapaa
open Go.RowKit Go.PlainAid

set_option maxHeartbeats 1000000 in
theorem LexJoinI_any (a : Option Addr) (cap : Nat) (ws : List ByteArray) (w : World) (h : Words w w.heap.size a ws) (ht : total ws ≤ 1048576) :
    Calls Try.prog 11 #[.slice a ws.length cap] w fun e w' => e = .returned (.string ⟨(joinW ws).toArray⟩) ∧ Below w.heap.size w w' := by
  have hlen := total_len ws
  have hbig : ws.length ≤ 1048576 := by omega
  have HT := hide ht
  have HW := hide h
  clear h ht hlen
  go_enter Try.func11, Try.ntmps11
  go_wp2
  go_loopw [8] (fun i wr => ∃ k : Nat, k ≤ ws.length ∧ i = .int .i64 k ∧ ∃ J : List UInt8, Hid (joinW (ws.take k) = J) ∧ Hid (Lib.IsBuilderF 45 5 w.heap.size w.heap.size (Lib.byteCells J) wr) ∧ Hid (Below w.heap.size w wr)) (fun i _ => ws.length - (intOf i).toNat)
  case atStart => exact ⟨0, Nat.zero_le _, rfl, [], hide rfl, hide (Lib.IsBuilderF.of (Lib.fresh_isBuilder 45 5 w)), hide ((Below.refl _ w).alloc (Nat.le_refl _) _)⟩
  case round =>
    obtain ⟨k, hk, rfl, J, HJ, HB, HBL⟩ := hrel
    have hjl : J.length ≤ 1048576 := by
      have h1 := joinW_len ws k hk
      have h2 := total_le ws k
      have h3 := unhide HT
      rw [unhide HJ] at h1
      omega
    by_cases hp : k < ws.length
    · rcases (unhide HW).kept (unhide HBL) (Nat.le_refl _) with h | ⟨b, off, rfl, hb, hc⟩
      · rw [h] at hp; simp at hp
      have hck := hc k hp
      have hsz : (ws[k]'hp).size ≤ 1048576 := by
        have h1 := total_step ws k hp
        have h2 := total_le ws (k + 1)
        have h3 := unhide HT
        omega
      obtain ⟨x, hx⟩ : ∃ x, ws[k]'hp = x := ⟨_, rfl⟩
      rw [hx] at hck hsz
      have HX := hide hx
      clear hx
      by_cases h0 : k = 0
      · have HS := hide (step_first ws k hp h0)
        rw [unhide HJ, unhide HX] at HS
        have hk0 : ¬ 0 < k := by omega
        clear h0 hc
        go_wp2_with fail
        refine (WriteString_any w.heap.size w.heap.size (Lib.byteCells (J)) x wr (unhide HB) (by rw [Lib.byteCells_length]; omega) (unhide HBL).size).mono ?_
        rintro e w2 ⟨rfl, hb2, hl2, _⟩
        have HB2 : Hid (Lib.IsBuilderF 45 5 w.heap.size w.heap.size (Lib.byteCells ((J) ++ x.data.toList)) w2) := hide (by rw [Lib.byteCells_append]; exact hb2)
        have HL2 := hide ((unhide HBL).trans hl2)
        clear hb2 hl2
        go_wp2
        go_roundw
        case rel => exact ⟨k + 1, by omega, by go_num, _, HS, HB2, HL2⟩
        case measure => simp [intOf]; omega
      have hk0 : 0 < k := by omega
      have hcp := hc (k - 1) (by omega)
      obtain ⟨q, hq⟩ : ∃ q, ws[k - 1]'(by omega) = q := ⟨_, rfl⟩
      rw [hq] at hcp
      have HQ := hide hq
      clear hq hc h0
      cases hq : (q.toList == [40]) with
      | true =>
        have HS := hide (step_none ws k hp hk0 (.inl (by rw [unhide HQ]; exact hq)))
        rw [unhide HJ, unhide HX] at HS
        go_wp2_with fail
        refine (WriteString_any w.heap.size w.heap.size (Lib.byteCells (J)) x wr (unhide HB) (by rw [Lib.byteCells_length]; omega) (unhide HBL).size).mono ?_
        rintro e w2 ⟨rfl, hb2, hl2, _⟩
        have HB2 : Hid (Lib.IsBuilderF 45 5 w.heap.size w.heap.size (Lib.byteCells ((J) ++ x.data.toList)) w2) := hide (by rw [Lib.byteCells_append]; exact hb2)
        have HL2 := hide ((unhide HBL).trans hl2)
        clear hb2 hl2
        go_wp2
        go_roundw
        case rel => exact ⟨k + 1, by omega, by go_num, _, HS, HB2, HL2⟩
        case measure => simp [intOf]; omega
      | false =>
        cases hx : (x.toList == [41]) with
        | true =>
          have HS := hide (step_none ws k hp hk0 (.inr (by rw [unhide HX]; exact hx)))
          rw [unhide HJ, unhide HX] at HS
          go_wp2_with fail
          refine (WriteString_any w.heap.size w.heap.size (Lib.byteCells (J)) x wr (unhide HB) (by rw [Lib.byteCells_length]; omega) (unhide HBL).size).mono ?_
          rintro e w2 ⟨rfl, hb2, hl2, _⟩
          have HB2 : Hid (Lib.IsBuilderF 45 5 w.heap.size w.heap.size (Lib.byteCells ((J) ++ x.data.toList)) w2) := hide (by rw [Lib.byteCells_append]; exact hb2)
          have HL2 := hide ((unhide HBL).trans hl2)
          clear hb2 hl2
          go_wp2
          go_roundw
          case rel => exact ⟨k + 1, by omega, by go_num, _, HS, HB2, HL2⟩
          case measure => simp [intOf]; omega
        | false =>
          have HS := hide (step_blank ws k hp hk0 (by rw [unhide HQ]; exact hq) (by rw [unhide HX]; exact hx))
          rw [unhide HJ, unhide HX] at HS
          go_wp2_with fail
          refine (WriteByte_any w.heap.size w.heap.size (Lib.byteCells J) 32 wr (unhide HB) (by rw [Lib.byteCells_length]; omega) (unhide HBL).size).mono ?_
          rintro e w1 ⟨rfl, hb1, hl1, _⟩
          have HB1 : Hid (Lib.IsBuilderF 45 5 w.heap.size w.heap.size (Lib.byteCells (J ++ [32])) w1) := hide (by rw [Lib.byteCells_append]; exact hb1)
          have HL1 := hide ((unhide HBL).trans hl1)
          clear hb1 hl1
          go_wp2_with fail
          refine (WriteString_any w.heap.size w.heap.size (Lib.byteCells (J ++ [32])) x w1 (unhide HB1) (by rw [Lib.byteCells_length]; simp; omega) (unhide HL1).size).mono ?_
          rintro e w2 ⟨rfl, hb2, hl2, _⟩
          have HB2 : Hid (Lib.IsBuilderF 45 5 w.heap.size w.heap.size (Lib.byteCells ((J ++ [32]) ++ x.data.toList)) w2) := hide (by rw [Lib.byteCells_append]; exact hb2)
          have HL2 := hide ((unhide HL1).trans hl2)
          clear hb2 hl2
          go_wp2
          go_roundw
          case rel => exact ⟨k + 1, by omega, by go_num, _, HS, HB2, HL2⟩
          case measure => simp [intOf]; omega
    · have HE : Hid (joinW ws = J) := hide (by rw [← unhide HJ, List.take_of_length_le (by omega)])
      go_wp2_with fail
      refine (Try.Builder_String_any_k w.heap.size w.heap.size J wr (unhide HB) (unhide HBL).size).mono ?_
      rintro e w1 ⟨rfl, _, hl1, _⟩
      have HL1 := hide ((unhide HBL).trans hl1)
      clear hl1
      go_wp2
      go_ret
      exact ⟨ret_str (by rw [unhide HE]), unhide HL1⟩
end Go.Proofs.Ytkegbdlbaanapaa
