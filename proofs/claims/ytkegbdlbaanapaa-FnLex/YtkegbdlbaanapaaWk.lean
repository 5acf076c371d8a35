/- The walks of toStringS and eqStringS. Conditions: the slices can be read. -/
import Derived.Test.YtkegbdlbaanapaaWj
namespace Go.Proofs.Ytkegbdlbaanapaa
open Go.RowKit Go.PlainAid

theorem sinfo : (Try.prog.info? 9).map (fun i => (i.zero, i.size, i.bytes)) = some (some (.string ⟨#[]⟩), 1, 16) := by kernel_rfl
theorem make_strings (n : Nat) (hn : n ≤ 1048576) : ∃ M : Array Value, M.size = n ∧ ∀ W : World, (Instr.makeSlice 23 (.int .i64 (n : Int)) (.int .i64 (n : Int))).run Try.prog W = .ok (.slice (some ⟨W.heap.size, 0, none⟩) n n) (W.alloc (.cells M 9)) := by
  obtain ⟨i0, hi, hz0, hz1, hz2⟩ := info_parts sinfo
  refine ⟨madeCells (Value.string ⟨#[]⟩).cells (((n : Nat) : Int).toNat * i0.size), by rw [size_madeCells, hz1]; simp, fun W => ?_⟩
  have h := run_make (P := Try.prog) W 23 9 i0 (.string ⟨#[]⟩) Try.underlying23 hi hz0 .i64 .i64 (n : Int) (n : Int) (by omega) (by omega) (by rw [hz2]; omega) (by omega)
  simpa using h

set_option maxHeartbeats 1000000 in
theorem toStringS_any (a : Option Addr) (cap : Nat) (ws : List ByteArray) (w : World) (h : Words w w.heap.size a ws) (hl : ws.length ≤ 1048576) :
    Calls Try.prog 30 #[.slice a ws.length cap] w fun e w' => ∃ (a' : Option Addr) (cap' : Nat), e = .returned (.slice a' ws.length cap') ∧ Words w' w'.heap.size a' ws ∧ Below w.heap.size w w' := by
  obtain ⟨M, hM, hmk⟩ := make_strings ws.length hl
  have HW := hide h
  have HM := hide hM
  clear h hM
  go_enter Try.func30, Try.ntmps30
  go_wp2
  clear hmk
  go_loopw [4] (fun i wr => ∃ k : Nat, k ≤ ws.length ∧ i = .int .i64 k ∧ Hid (Below w.heap.size w wr) ∧ Hid (w.heap.size < wr.heap.size) ∧ Hid (∀ j (hj : j < ws.length), j < k → wr.cell? ⟨w.heap.size, j, none⟩ = some (.string ws[j])) ∧ Hid (∀ j, j < ws.length → ∃ v, wr.cell? ⟨w.heap.size, j, none⟩ = some v) ∧ Hid (∀ j, wr.frozen? ⟨w.heap.size, j, none⟩ = false)) (fun i _ => ws.length - (intOf i).toNat)
  case atStart =>
    refine ⟨0, Nat.zero_le _, rfl, hide ((Below.refl _ w).alloc (Nat.le_refl _) _), hide (by simp), hide (fun j _ hj => absurd hj (Nat.not_lt_zero _)), hide (fun j hj => ?_), hide (fun j => by simp)⟩
    rw [World.cell?_alloc_new]
    have : j < M.size := by rw [unhide HM]; exact hj
    exact ⟨_, Array.getElem?_eq_getElem this⟩
  case round =>
    obtain ⟨k, hk, rfl, HB, HZ, HD, HC, HF⟩ := hrel
    by_cases hp : k < ws.length
    · rcases (unhide HW).kept (unhide HB) (Nat.le_refl _) with h | ⟨b, off, rfl, hb, hc⟩
      · rw [h] at hp; simp at hp
      have hck := hc k hp
      obtain ⟨v, hv⟩ := unhide HC k hp
      have hf := unhide HF k
      obtain ⟨x, hx⟩ : ∃ x, ws[k]'hp = x := ⟨_, rfl⟩
      rw [hx] at hck
      have HX := hide hx
      clear hc hx
      go_wp2
      go_roundw
      case rel =>
        refine ⟨k + 1, by omega, by go_num, hide ((unhide HB).setCell (p := ⟨w.heap.size, k, none⟩) (Nat.le_refl _) _), hide (by simpa [World.setCell] using unhide HZ), hide (fun j hj hjk => ?_), hide (fun j hj => ?_), hide (fun j => by rw [World.frozen?_setCell]; exact unhide HF j)⟩
        · by_cases e : j = k
          · subst e
            rw [unhide HX]
            exact World.cell?_setCell_same' _ _ _ (by rw [hv]; rfl)
          · rw [World.cell?_setCell_other _ ⟨w.heap.size, k, none⟩ ⟨w.heap.size, j, none⟩ _ (by simp <;> omega)]
            exact unhide HD j hj (by omega)
        · by_cases e : j = k
          · subst e
            exact ⟨_, World.cell?_setCell_same' _ _ _ (by rw [hv]; rfl)⟩
          · rw [World.cell?_setCell_other _ ⟨w.heap.size, k, none⟩ ⟨w.heap.size, j, none⟩ _ (by simp <;> omega)]
            exact unhide HC j hj
      case measure => simp [intOf]; omega
    · go_wp2
      go_ret
      refine ⟨_, _, rfl, .inr ⟨w.heap.size, 0, rfl, unhide HZ, fun j hj => ?_⟩, unhide HB⟩
      rw [Nat.zero_add]
      exact unhide HD j hj (by omega)

def sameB (xs ys : List ByteArray) : Bool := decide (xs = ys)
set_option maxHeartbeats 1000000 in
theorem eqStringS_any (a a2 : Option Addr) (cap cap2 : Nat) (ws vs : List ByteArray) (w : World) (h : Words w w.heap.size a ws) (h2 : Words w w.heap.size a2 vs) (hl : ws.length ≤ 1048576) (hl2 : vs.length ≤ 1048576) :
    Calls Try.prog 26 #[.slice a ws.length cap, .slice a2 vs.length cap2] w fun e w' => e = .returned (.bool (sameB ws vs)) ∧ Below w.heap.size w w' := by
  by_cases hne : ws.length = vs.length
  · have hq : ((ws.length : Int) != (vs.length : Int)) = false := by simp [hne]
    have HN := hide hne
    have HW := hide h
    have HV := hide h2
    clear hne h h2
    go_enter Try.func26, Try.ntmps26
    go_wp2
    go_loopw [5] (fun i wr => ∃ k n : Nat, k ≤ ws.length ∧ i = .int .i64 k ∧ wr = w.drewN n ∧ Hid (∀ j (hj : j < ws.length) (hj2 : j < vs.length), j < k → ws[j] = vs[j])) (fun i _ => ws.length - (intOf i).toNat)
    case atStart => exact ⟨0, 0, Nat.zero_le _, rfl, rfl, hide (fun j _ _ hj => absurd hj (Nat.not_lt_zero _))⟩
    case round =>
      obtain ⟨k, n, hk, rfl, rfl, HD⟩ := hrel
      by_cases hp : k < ws.length
      · have hp2 : k < vs.length := by have := unhide HN; omega
        rcases unhide HW with h | ⟨b, off, rfl, hb, hc⟩
        · rw [h] at hp; simp at hp
        rcases unhide HV with h | ⟨b2, off2, rfl, hb2, hc2⟩
        · rw [h] at hp2; simp at hp2
        have hck := hc k hp
        have hck2 := hc2 k hp2
        obtain ⟨x, hx⟩ : ∃ x, ws[k]'hp = x := ⟨_, rfl⟩
        obtain ⟨y, hy⟩ : ∃ y, vs[k]'hp2 = y := ⟨_, rfl⟩
        rw [hx] at hck
        rw [hy] at hck2
        have HX := hide hx
        have HY := hide hy
        clear hc hc2 hx hy
        cases he : (x.toList == y.toList) with
        | true =>
          have HXY : Hid (x = y) := hide (by
            have := beq_iff_eq.1 he
            rw [ByteArray.toList_eq, ByteArray.toList_eq] at this
            obtain ⟨⟨p⟩⟩ := x
            obtain ⟨⟨q⟩⟩ := y
            have e : p = q := this
            rw [e])
          go_wp2
          go_quiet (fail)
          go_wp2
          go_roundw
          case rel =>
            refine ⟨k + 1, _, by omega, by go_num, rfl, hide (fun j hj hj2 hjk => ?_)⟩
            by_cases e : j = k
            · subst e; rw [unhide HX, unhide HY]; exact unhide HXY
            · exact unhide HD j hj hj2 (by omega)
          case measure => simp [intOf]; omega
        | false =>
          have HXY : Hid (sameB ws vs = false) := hide (by
            unfold sameB
            rw [decide_eq_false_iff_not]
            intro e
            subst e
            have : x = y := by rw [← unhide HX, ← unhide HY]
            rw [this] at he
            simp at he)
          go_wp2
          go_quiet (fail)
          go_wp2
          go_ret
          exact ⟨ret_bool (unhide HXY).symm, below_drewN (below_drewN (Below.refl _ _) _) _⟩
      · have HXY : Hid (sameB ws vs = true) := hide (by
          unfold sameB
          rw [decide_eq_true_eq]
          exact List.ext_getElem (unhide HN) (fun j hj hj2 => unhide HD j hj hj2 (by omega)))
        go_wp2
        go_ret
        exact ⟨ret_bool (unhide HXY).symm, below_drewN (Below.refl _ _) _⟩
  · have hq : ((ws.length : Int) != (vs.length : Int)) = true := by simp; omega
    have HXY : Hid (sameB ws vs = false) := hide (by
      unfold sameB
      rw [decide_eq_false_iff_not]
      intro e
      exact hne (by rw [e]))
    clear h h2 hne
    go_enter Try.func26, Try.ntmps26
    go_wp2
    go_ret
    exact ⟨ret_bool (unhide HXY).symm, Below.refl _ _⟩
end Go.Proofs.Ytkegbdlbaanapaa
