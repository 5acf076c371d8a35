/- A row of faces that came in can be read: what the walk of a law is told of it. No conditions. -/
import Derived.Test.YtgmohnbjfemebaaGreatDoorFq
import Derived.Test.YtgmohnbjfemebaaGreatDoorNJall
namespace Go.Proofs.YtgmohnbjfemebaaGreatDoor
open Go.ChangeShapes Go.WideShapes Go.ChangeAt Go.RowKit Go.PlainAid

theorem cellsFaceF : Tryz.prog.cellsOf 115 = 2 := by kernel_rfl
theorem cellsSigsF : Tryz.prog.cellsOf 113 = 1 := by kernel_rfl
variable {H : Type} {enc : TypeId × Value → H} {w : World} {base : Nat} {sp : Nat → Bool} {held : Bool}
set_option maxRecDepth 100000 in
theorem open_face {fuel : Nat} {cs : List Value} {x : DataW H × List MemPlace} (h : DataW.trod enc Tryz.prog w base sp held fuel 115 cs = some x) : ∃ (e : TY) (c0 c1 : Value), cs = [c0, c1] ∧ IsFace w 0 w.heap.size (.agg #[c0, c1]) e := by
  obtain ⟨xs, n, rfl, rfl, hl, hlen, hf⟩ := DataW.trod_struct Tryz.underlying115 h
  rw [cellsFaceF] at hl
  match cs, hl with
  | [c0, c1], _ =>
  match xs, hlen with
  | [y0, y1], _ =>
  have t0 : DataW.trod enc Tryz.prog w base sp held n 9 ((([c0, c1] : List Value).drop 0).take (Tryz.prog.cellsOf 9)) = some y0 := hf 0 { name := "Mod", type := 9, offset := 0, embedded := false, tag := "", pkgPath := "", byteOffset := 0 } rfl
  have t1 : DataW.trod enc Tryz.prog w base sp held n 113 ((([c0, c1] : List Value).drop 1).take (Tryz.prog.cellsOf 113)) = some y1 := hf 1 { name := "Sigs", type := 113, offset := 1, embedded := false, tag := "", pkgPath := "", byteOffset := 16 } rfl
  rw [cells9F] at t0
  rw [cellsSigsF] at t1
  have u0 : DataW.trod enc Tryz.prog w base sp held n 9 [c0] = some y0 := t0
  have u1 : DataW.trod enc Tryz.prog w base sp held n 113 [c1] = some y1 := t1
  obtain ⟨nm, e0, -, hnm⟩ := DataW.trod_string Tryz.underlying9 u0
  obtain ⟨aa, ca, l, e1, hz, hI⟩ := open_sigs u1
  simp only [List.cons.injEq, and_true] at e0 e1
  subst e0 e1
  exact ⟨⟨nm, l⟩, _, _, rfl, aa, ca, rfl, ⟨hnm, hz⟩, hI⟩
theorem open_faces {fuel : Nat} {cs : List Value} {x : DataW H × List MemPlace} (h : DataW.trod enc Tryz.prog w base sp held fuel 51 cs = some x) : ∃ (a : Option Addr) (cap : Nat) (l : List TY), cs = [.slice a l.length cap] ∧ l.length ≤ maxLen ∧ IsFaces (IsFace w 0 w.heap.size) w 0 w.heap.size a l := by
  obtain ⟨a, cap, l, e, hl, hr⟩ := open_rowF Tryz.underlying51 cellsFaceF (by omega) h (fun n' cs (e : TY) => ∃ c0 c1 : Value, cs = [c0, c1] ∧ IsFace w 0 w.heap.size (.agg #[c0, c1]) e) (fun n' _ cs x hx => open_face hx)
  refine ⟨a, cap, l, e, hl.1, ?_⟩
  rcases hr with h | ⟨b, off, n', hn, ha, hb, hj⟩
  · exact .inl h
  · refine .inr ⟨b, off, ha, Nat.zero_le _, hb, fun j hjl => ?_⟩
    obtain ⟨cs, _, hc, c0, c1, rfl, hE⟩ := hj j hjl
    exact ⟨c0, c1, hc 0 (by omega), hc 1 (by omega), hE⟩
end Go.Proofs.YtgmohnbjfemebaaGreatDoor
