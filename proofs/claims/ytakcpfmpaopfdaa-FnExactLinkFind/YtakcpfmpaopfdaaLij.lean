/- The walk of impl.LinkFind. Conditions: the parts can be read, and weigh at most 2^20. -/
import Derived.Test.YtakcpfmpaopfdaaLii
import Derived.Test.YtakcpfmpaopfdaaLig
namespace Go.Proofs.Ytakcpfmpaopfdaa
open Go.RowKit Go.PlainAid

set_option maxRecDepth 100000 in
set_option maxHeartbeats 1000000 in
theorem LinkFindI_any (lo : Nat) (a : Option Addr) (cap : Nat) (l : List TP) (md nm : ByteArray) (w : World) (h : Parts w lo a l) (hl : l.length ≤ maxLen) (hlc : l.length ≤ cap) (hcp : cap ≤ maxLen) (hw : wtPas l ≤ 1048576) :
    Calls Try.prog 7 #[.slice a l.length cap, .string md, .string nm] w fun r w' => r = .returned (.tuple #[.int .i64 (numO (findO l md nm)), .bool (findO l md nm).isSome]) ∧ Below w.heap.size w w' := by
  have HX : Hid (findO l md nm = if 8 < l.length then none else symR l md nm) := hide rfl
  generalize findO l md nm = R at HX ⊢
  have HT := hide (linkTableOf_any lo a cap l w h hlc hcp hw)
  have HL := hide hl
  unfold maxLen at hl hcp
  clear h hw
  by_cases h8 : 8 < l.length
  · have HR : Hid (R = none) := hide (by rw [unhide HX, if_pos h8])
    go_enter Try.func7, Try.ntmps7
    go_wp2
    refine bodyPost_ret (v := .tuple #[.int .i64 0, .bool false]) (by simp [results, Try.results7, go_sem]) rfl ?_
    exact ⟨by rw [unhide HR]; rfl, Below.refl _ _⟩
  have HX1 : Hid (R = symR l md nm) := hide (by rw [unhide HX, if_neg h8])
  clear HX
  cases R with
  | none =>
    go_enter Try.func7, Try.ntmps7
    go_wp2_with (first
      | (go_at_call 14; refine (unhide HT).mono ?_; rintro r w1 ⟨b, T, rfl, hT, hK, -, hb⟩; have hs := hK ⟨md, nm⟩; rw [allN_sym, ← unhide HX1] at hs; have hlk := tbl_look hT ⟨md, nm⟩; rw [hs] at hlk; have HLK := hide hlk; have HB := hide hb; clear hT hK hs hb hlk; have hlk : (Instr.lookup 51 (.map (some b)) (.agg #[.string md, .string nm]) true).run Try.prog w1 = .ok (.tuple #[.agg #[.int .i64 0, .bool false], .bool false]) w1 := unhide HLK))
    refine bodyPost_ret (v := .tuple #[.int .i64 0, .bool false]) (by simp [results, Try.results7, go_sem]) rfl ?_
    exact ⟨rfl, (unhide HB).alloc (unhide HB).size _⟩
  | some t =>
    go_enter Try.func7, Try.ntmps7
    go_wp2_with (first
      | (go_at_call 14; refine (unhide HT).mono ?_; rintro r w1 ⟨b, T, rfl, hT, hK, -, hb⟩; have hs := hK ⟨md, nm⟩; rw [allN_sym, ← unhide HX1] at hs; have hlk := tbl_look hT ⟨md, nm⟩; rw [hs] at hlk; have HLK := hide hlk; have HB := hide hb; clear hT hK hs hb hlk; have hlk : (Instr.lookup 51 (.map (some b)) (.agg #[.string md, .string nm]) true).run Try.prog w1 = .ok (.tuple #[.agg #[.int .i64 (t.num : Int), .bool t.pub], .bool true]) w1 := unhide HLK))
    refine bodyPost_ret (v := .tuple #[.int .i64 (t.num : Int), .bool true]) (by simp [results, Try.results7, go_sem]) rfl ?_
    exact ⟨rfl, (unhide HB).alloc (unhide HB).size _⟩
end Go.Proofs.Ytakcpfmpaopfdaa
