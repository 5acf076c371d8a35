/- The walk of DrawLexJoin. Conditions: the slice that was handed in can be read. -/
import Derived.Test.YtkegbdlbaanapaaYc
import Derived.Test.YtkegbdlbaanapaaXe
namespace Go.Proofs.Ytkegbdlbaanapaa
open Go.RowKit Go.PlainAid

theorem next_row2 {W w2 : World} {base m k : Nat} {v v2 : Value} {pre : List ByteArray} {x : ByteArray} (hrow : W.ownsRow base 9 1 v k (pre.map Value.string)) (hW : base ≤ W.heap.size)
    (hown : w2.ownsRow base 9 1 v2 m (pre.map Value.string ++ [.string x])) (hgrow : (W.alloc (.cells #[.string x] 9)).grownBy w2 v.ownBlock) : w2.ownsRow base 9 1 v2 m ((pre ++ [x]).map Value.string) ∧ Below base W w2 := by
  refine ⟨by rw [List.map_append]; exact hown, ((Below.refl base W).alloc hW _).grown hgrow (by simp; omega) (fun k e => (hrow.lt k e).1)⟩
theorem set_size (w : World) (p : Addr) (v : Value) (k : Nat) : ((w.setCell p v).drewN k).heap.size = w.heap.size := by
  show (w.setCell p v).heap.size = _
  simp [World.setCell]

set_option maxHeartbeats 1000000 in
theorem DrawLexJoin_any (a : Option Addr) (len cap : Nat) (w : World) (hl : len ≤ cap) (hm : cap ≤ maxLen) (h : Src w w.heap.size a len) :
    Calls Try.prog 10 #[.slice a len cap] w fun e w' => ∃ (ws : List ByteArray) (a' : Option Addr) (cap' : Nat), e = .returned (.slice a' ws.length cap') ∧ Words w' w'.heap.size a' ws ∧ ws.length ≤ 12 ∧ total ws ≤ 1300 ∧ Below w.heap.size w w' := by
  obtain ⟨i0, hi, hz0, hz1, hz2⟩ := info_parts sinfo9
  have HO := hide (l23Open_any a len cap w hl hm h)
  clear h hl hm
  go_enter Try.func10, Try.ntmps10
  go_wp2_with fail
  refine (unhide HO).mono ?_
  rintro e w1 ⟨len', cap', rfl, hrd, hb, hsz⟩
  have HR := hide hrd
  have HB := hide hb
  have HZ := hide hsz
  clear hrd hb hsz HO
  have HL : Hid ((w1.alloc (.cells #[] 9)).ownsRow (w.heap.size + 1) 9 1 (.slice (some ⟨w1.heap.size, 0, none⟩) 0 0) 0 []) := hide (World.ownsRow_lit w1 #[] 0 (by rw [unhide HZ]; omega) (Nat.zero_le _) rfl)
  go_wp2_with fail
  refine (pick_any w.heap.size a len' cap' 0 12 _ ((unhide HR).kept ((Below.refl _ _).alloc (by rw [unhide HZ]; omega) _)) (by omega) (by omega)).mono ?_
  rintro e w2 ⟨i, rfl, hi0, hi1, k2, hk2⟩
  have hi2 := hi1 (by omega)
  clear hi1
  obtain ⟨m0, rfl⟩ := Int.eq_ofNat_of_zero_le hi0
  have HR2 : Hid (IsRd w2 w.heap.size a len' cap' (0 + 1)) := hide (by rw [hk2]; exact ((unhide HR).kept ((Below.refl _ _).alloc (by rw [unhide HZ]; omega) _)).next k2)
  have HB2 : Hid (Below w.heap.size w w2) := hide (by rw [hk2]; exact ((unhide HB).alloc (by rw [unhide HZ]; omega) _).trans (pick_below _ _))
  have HZ2 : Hid (w.heap.size + 1 ≤ w2.heap.size) := hide (by rw [hk2, set_size]; have := unhide HZ; simp; omega)
  have HW2 : Hid (w2.ownsRow (w.heap.size + 1) 9 1 (.slice (some ⟨w1.heap.size, 0, none⟩) 0 0) 0 []) := hide (by rw [hk2]; exact ownsRow_setCell_below (unhide HL) (a := ⟨w.heap.size, 1, none⟩) (Nat.lt_succ_self _) _)
  clear hk2 HR HB HZ HL
  go_wp2
  go_loopw [4, 5] (fun o i wr => ∃ (m p : Nat) (pre : List ByteArray), i = .int .i64 m ∧ m ≤ 11 ∧ p + m ≤ 30 ∧ pre.length + m ≤ 11 ∧ Hid (total pre + 101 * m ≤ 1300) ∧ wr.ownsRow (w.heap.size + 1) 9 1 o pre.length (pre.map Value.string) ∧ Hid (IsRd wr w.heap.size a len' cap' p) ∧ Hid (Below w.heap.size w wr) ∧ Hid (w.heap.size + 1 ≤ wr.heap.size)) (fun _ i _ => (intOf i).toNat)
  case atStart => exact ⟨m0, 0 + 1, [], rfl, by omega, by omega, by simp; omega, hide (by show 0 + _ ≤ _; omega), unhide HW2, HR2, HB2, HZ2⟩
  case round =>
    obtain ⟨m, p, pre, rfl, hm, hpm, hpl, HT, hrow, HR, HB, HZ⟩ := hrel
    obtain ⟨ao, capo, hv⟩ := row_slice_len hrow
    rw [hv] at hrow ⊢
    clear hv
    by_cases h0 : 0 < m
    · go_wp2_with fail
      refine (of_text w.heap.size 11 11 _ _ a len' cap' p _ (unhide HR) (by omega) (unhide HZ) (by omega) (by omega) rfl rfl).mono ?_
      rintro e w3 ⟨y, hy, rfl, hr3, hb3, k3, hk3⟩
      have HR3 := hide hr3
      have HB3 := hide ((unhide HB).trans hb3)
      have HZ3 : Hid (w.heap.size + 1 ≤ w3.heap.size) := hide (by have := unhide HZ; rw [hk3, set_size]; simp; omega)
      have hrow3 : w3.ownsRow (w.heap.size + 1) 9 1 (.slice ao pre.length capo) pre.length (pre.map Value.string) := by
        rw [hk3]; exact ownsRow_setCell_below (hrow.alloc _) (a := ⟨w.heap.size, 1, none⟩) (Nat.lt_succ_self _) _
      clear hr3 hb3 hk3 hrow HR HB HZ
      go_wp2_with (first | (at_builtin; refine wpList_append_own _ rfl _ _ 23 rfl (w.heap.size + 1) 9 i0 (.string ⟨#[]⟩) 1 16 Try.underlying23 hi hz0 hz1 hz2 rfl (by decide) _ _ _ rfl (hrow3.alloc _) ⟨w3.heap.size, 0, none⟩ 1 1 [.string y] rfl rfl (cell_one_new _ _ _) (by simp [Value.oneCell']) (by unfold maxLen; omega) (by omega) (by have := unhide HZ3; simp; omega) ?_; intro v4 w4 hown4 hgrow4 _; obtain ⟨g4, cap4, rfl⟩ := ownsRow_succ hown4))
      obtain ⟨r1, r2⟩ := next_row2 hrow3 (unhide HZ3) hown4 hgrow4
      go_roundw
      case rel => exact ⟨m - 1, p + 1, pre ++ [y], by go_num, by omega, by omega, by rw [List.length_append]; show _ + 1 + _ ≤ _; omega, hide (by rw [total_snoc]; have := unhide HT; omega), by rw [List.length_append]; exact r1, hide ((unhide HR3).kept r2), hide ((unhide HB3).trans (r2.mono (by omega))), hide (by have := r2.size; have := unhide HZ3; omega)⟩
      case measure => simp [intOf]; omega
    · go_wp2
      go_ret
      obtain ⟨a5, cap5, e5, h5⟩ := row_words hrow rfl
      exact ⟨pre, a5, cap5, by rw [e5]; rfl, h5, by omega, by have := unhide HT; omega, unhide HB⟩
end Go.Proofs.Ytkegbdlbaanapaa
