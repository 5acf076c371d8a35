/- The walk of markStringS, and of the law on LexCut: it returns true and turns nothing that was there. No conditions. -/
import Derived.Test.YtkegbdlbaanapaaMa
import Derived.Test.YtkegbdlbaanapaaWk
namespace Go.Proofs.Ytkegbdlbaanapaa
open Go.RowKit Go.PlainAid

theorem row_below {W W1 : World} {m k : Nat} {v : Value} {xs : List Value} (h : W.ownsRow m 9 1 v k xs) (hb : Below W.heap.size W W1) : W1.ownsRow m 9 1 v k xs := by
  refine h.kept (row := none) ⟨hb.os, hb.tape, hb.output, hb.size, fun k hk _ => hb.block k hk⟩ ?_
  cases hv : v.ownBlock
  · exact .inl rfl
  · exact .inr (by simp)
theorem marks_snoc (k0 n : Nat) : marks k0 (n + 1) = marks k0 n ++ [mt (k0 + n)] := by
  unfold marks; rw [List.range_succ, List.map_append]; rfl
theorem set_step (n k : Nat) (xs : List Value) (hx : xs.length = n) (hk : k < n) :
    (((marks 1 k).map Value.string) ++ xs.drop k).set k (.string (mt (1 + k))) = ((marks 1 (k + 1)).map Value.string) ++ xs.drop (k + 1) := by
  have hl : ((marks 1 k).map Value.string).length = k := by rw [List.length_map, marks_len]
  rw [List.set_append_right _ _ (by omega), hl, Nat.sub_self, List.drop_eq_getElem_cons (by omega), List.set_cons_zero, marks_snoc, List.map_append]
  simp

set_option maxHeartbeats 400000 in
theorem markStringS_any (base n : Nat) (v : Value) (xs : List Value) (w : World) (h : w.ownsRow base 9 1 v n xs) (hbase : base ≤ w.heap.size) (hn : n ≤ 100000) :
    Calls Try.prog 27 #[v, .int .i64 1] w fun e w' => e = .returned (.int .i64 (1 + n)) ∧ w'.ownsRow base 9 1 v n ((marks 1 n).map Value.string) ∧ Below base w w' := by
  have hxl : xs.length = n := by have := h.1; omega
  rcases h.2 with ⟨rfl, rfl⟩ | ⟨g, cap, cur, rfl, _⟩
  · go_enter Try.func27, Try.ntmps27
    go_wp2
    refine wp_loop_rounds 1 ?_
    rw [rounds_succ]
    go_wp2
    go_ret
    exact ⟨rfl, World.ownsRow_nil _ _ _ _, Below.refl _ _⟩
  · have HX := hide hxl
    have H := hide h
    clear h hxl
    go_enter Try.func27, Try.ntmps27
    go_wp2
    go_loopw [1, 5] (fun kk i wr => ∃ k : Nat, k ≤ n ∧ i = .int .i64 k ∧ kk = .int .i64 (1 + k) ∧ Hid (wr.ownsRow base 9 1 (.slice (some ⟨g, 0, none⟩) n cap) n (((marks 1 k).map Value.string) ++ xs.drop k)) ∧ Hid (Below base w wr)) (fun _ i _ => n - (intOf i).toNat)
    case atStart => exact ⟨0, Nat.zero_le _, rfl, rfl, hide (by simpa [marks] using unhide H), hide (Below.refl _ _)⟩
    case round =>
      obtain ⟨k, hk, rfl, rfl, HR, HB⟩ := hrel
      by_cases hp : k < n
      · have HKK := hide (show (1 : Int) + (k : Int) = ((1 + k : Nat) : Int) by omega)
        have HST := hide (set_step n k xs (unhide HX) hp)
        have hlen : k < (((marks 1 k).map Value.string) ++ xs.drop k).length := by
          rw [List.length_append, List.length_map, marks_len, List.length_drop, unhide HX]; omega
        obtain ⟨u, hu⟩ : ∃ u, (((marks 1 k).map Value.string) ++ xs.drop k)[k]? = some u := ⟨_, List.getElem?_eq_getElem hlen⟩
        have HU := hide hu
        clear hu hlen
        go_wp2_with fail
        rw [unhide HKK]
        refine (markText_any (1 + k) (by omega) (by omega) _).mono ?_
        rintro e w1 ⟨rfl, hb1⟩
        have hr1 := row_below (unhide HR) hb1
        have hc1 : w1.cell? ⟨g, k, none⟩ = some u := (hr1.cellAt k (by omega)).trans (unhide HU)
        have hf1 := hr1.frozenAt k
        have HR1 := hide hr1
        have HBB := hide ((unhide HB).trans (hb1.mono (by have := (unhide HB).size; omega)))
        have hgb := (hr1.lt g rfl).1
        clear hr1 hb1
        go_wp2
        go_roundw
        case rel =>
          refine ⟨k + 1, by omega, by go_num, by go_num, hide ?_, hide ((unhide HBB).setCell (p := ⟨g, k, none⟩) hgb _)⟩
          rw [← unhide HST]
          exact ((unhide HR1).stored k _).1
        case measure => simp [intOf]; omega
      · obtain rfl : k = n := by omega
        have HE : Hid (wr.ownsRow base 9 1 (.slice (some ⟨g, 0, none⟩) k cap) k ((marks 1 k).map Value.string)) := hide (by
          have := unhide HR
          rw [List.drop_of_length_le (by rw [unhide HX]; exact Nat.le_refl _), List.append_nil] at this
          exact this)
        go_wp2
        go_ret
        exact ⟨ret_int (by omega), unhide HE, unhide HB⟩
end Go.Proofs.Ytkegbdlbaanapaa
