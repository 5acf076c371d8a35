/- The walk of the law on LexJoin: it returns true and turns nothing that was there. No conditions. -/
import Derived.Test.YtkegbdlbaanapaaWi
import Derived.Test.YtkegbdlbaanapaaWk
namespace Go.Proofs.Ytkegbdlbaanapaa
open Go.RowKit Go.PlainAid

/-- What the walk is told of a slice of texts that came in. -/
def IsStrs (w : World) (a : Option Addr) (len cap : Nat) (ss : List ByteArray) : Prop :=
  (a = none ∧ len = 0 ∧ cap = 0 ∧ ss = []) ∨
  ∃ x, a = some x ∧ len ≤ cap ∧ cap ≤ maxLen ∧ ss.length = cap ∧ (∀ i, i < ss.length → w.cell? (x.add i) = some (.string (ss.getD i ByteArray.empty))) ∧ ∀ s ∈ ss, s.size ≤ maxLen
theorem IsStrs.words {w : World} {a : Option Addr} {len cap : Nat} {ss : List ByteArray} (h : IsStrs w a len cap ss) : ∃ ws : List ByteArray, ws.length = len ∧ len ≤ maxLen ∧ Words w w.heap.size a ws ∧ ∀ x ∈ ws, x.size ≤ maxLen := by
  rcases h with ⟨rfl, rfl, rfl, rfl⟩ | ⟨x, rfl, h1, h2, h3, h4, h5⟩
  · exact ⟨[], rfl, Nat.zero_le _, .inl rfl, fun x hx => absurd hx List.not_mem_nil⟩
  · refine ⟨ss.take len, by rw [List.length_take]; omega, by omega, ?_, fun x hx => h5 x (List.mem_of_mem_take hx)⟩
    by_cases hl : len = 0
    · left; rw [hl]; rfl
    · right
      obtain ⟨b, off, spot⟩ := x
      have hc := h4 0 (by omega)
      have hspot : spot = none := by simpa [Addr.add] using World.cell?_spot hc
      subst hspot
      refine ⟨b, off, rfl, ?_, fun j hj => ?_⟩
      · have := block_lt_of_cell hc
        simpa [Addr.add] using this
      · rw [List.length_take] at hj
        have hjs : j < ss.length := by omega
        have := h4 j hjs
        have e2 : ss.getD j ByteArray.empty = ss[j] := by simp [List.getD, hjs]
        rw [e2] at this
        rw [List.getElem_take]
        by_cases e : j = 0
        · subst e; simpa [Addr.add] using this
        · simpa [Addr.add, e] using this
theorem bnext2 {w w1 w2 : World} (h : Below w.heap.size w w1) (k : Below w1.heap.size w1 w2) : Below w.heap.size w w2 := h.trans (k.mono h.size)

set_option maxHeartbeats 1000000 in
theorem fnExactLexJoin_walk (a : Option Addr) (len cap : Nat) (ss : List ByteArray) (w : World) (h : IsStrs w a len cap ss) :
    Calls Try.prog 6 #[.slice a len cap] w fun e w' => e = .returned (.bool true) ∧ Below w.heap.size w w' := by
  obtain ⟨ws, rfl, hl, hw, hs⟩ := h.words
  have HW := hide hw
  have HZ := hide (szStringS_any a cap ws w hw hl hs)
  clear h hw hs hl
  go_enter Try.func6, Try.ntmps6
  go_wp2_with fail
  refine (unhide HZ).mono ?_
  rintro e w1 ⟨⟨i, rfl, hi⟩, rfl⟩
  rcases hi with ⟨ht, hi⟩ | ⟨ht, hi⟩
  · have HT := hide ht
    have HL : Hid (ws.length ≤ 1048576) := hide (by have := total_len ws; omega)
    clear ht HZ
    go_wp2_with fail
    refine (toStringS_any a cap ws _ (unhide HW) (unhide HL)).mono ?_
    rintro e w1 ⟨a1, cap1, rfl, hw1, hb1⟩
    have HB1 := hide hb1
    have HW1 := hide hw1
    clear hb1 hw1
    go_wp2_with fail
    refine (LexJoinS_any a1 cap1 ws _ (unhide HW1) (unhide HT)).mono ?_
    rintro e w2 ⟨rfl, rfl⟩
    go_wp2_with fail
    refine (toStringS_any a cap ws _ ((unhide HW).kept (unhide HB1) (unhide HB1).size) (unhide HL)).mono ?_
    rintro e w2 ⟨a2, cap2, rfl, hw2, hb2⟩
    have HB2 := hide (bnext2 (unhide HB1) hb2)
    have HW2 := hide hw2
    clear hb2 hw2 HB1 HW1
    go_wp2_with fail
    refine (LexJoinI_any a2 cap2 ws _ (unhide HW2) (unhide HT)).mono ?_
    rintro e w3 ⟨rfl, hb3⟩
    have HB3 := hide (bnext2 (unhide HB2) hb3)
    have HW3 := hide ((unhide HW2).kept hb3 hb3.size)
    clear hb3 HB2 HW2
    go_wp2_with fail
    refine (toStringS_any a cap ws _ ((unhide HW).kept (unhide HB3) (unhide HB3).size) (unhide HL)).mono ?_
    rintro e w4 ⟨a4, cap4, rfl, hw4, hb4⟩
    have HB4 := hide (bnext2 (unhide HB3) hb4)
    have HW4 := hide hw4
    have HW5 := hide ((unhide HW3).kept hb4 hb4.size)
    clear hb4 hw4 HB3 HW3
    go_wp2_with fail
    refine (eqStringS_any a2 a4 cap2 cap4 ws ws _ (unhide HW5) (unhide HW4) (unhide HL) (unhide HL)).mono ?_
    rintro e w5 ⟨rfl, hb5⟩
    have HB5 := hide (bnext2 (unhide HB4) hb5)
    have hsame : sameB ws ws = true := by simp [sameB]
    rw [hsame]
    clear hb5 HB4 hsame
    go_wp2
    go_ret
    exact ⟨rfl, unhide HB5⟩
  · clear ht HZ
    go_wp2
    go_ret
    exact ⟨rfl, Below.refl _ _⟩
end Go.Proofs.Ytkegbdlbaanapaa
