/- Parts that came in can be read: what the walk of a law is told of them. No conditions. -/
import Derived.Test.YtakcpfmpaopfdaaCr
import Derived.Test.YtakcpfmpaopfdaaLib
namespace Go.Proofs.Ytakcpfmpaopfdaa
open Go.ChangeShapes Go.WideShapes Go.ChangeAt Go.RowKit Go.PlainAid
open Go.ChangeMaps (open_string shut_string)

variable {H : Type} {enc : TypeId × Value → H} {w : World} {base : Nat} {sp : Nat → Bool} {held : Bool}

theorem cellsPartF : Try.prog.cellsOf 36 = 3 := by kernel_rfl
theorem cellsPartsF : Try.prog.cellsOf 22 = 1 := by kernel_rfl
set_option maxRecDepth 100000 in
theorem open_part {fuel : Nat} {cs : List Value} {x : DataW H × List MemPlace} (h : DataW.trod enc Try.prog w base sp held fuel 36 cs = some x) : ∃ (e : TP) (c0 c1 c2 : Value), cs = [c0, c1, c2] ∧ IsPa w 0 w.heap.size (.agg #[c0, c1, c2]) e := by
  obtain ⟨xs, n, rfl, rfl, hl, hlen, hf⟩ := DataW.trod_struct Try.underlying36 h
  rw [cellsPartF] at hl
  match cs, hl with
  | [c0, c1, c2], _ =>
  match xs, hlen with
  | [y0, y1], _ =>
  have t0 : DataW.trod enc Try.prog w base sp held n 9 ((([c0, c1, c2] : List Value).drop 0).take (Try.prog.cellsOf 9)) = some y0 := hf 0 { name := "Name", type := 9, offset := 0, embedded := false, tag := "", pkgPath := "", byteOffset := 0 } rfl
  have t1 : DataW.trod enc Try.prog w base sp held n 34 ((([c0, c1, c2] : List Value).drop 1).take (Try.prog.cellsOf 34)) = some y1 := hf 1 { name := "Obj", type := 34, offset := 1, embedded := false, tag := "", pkgPath := "", byteOffset := 16 } rfl
  rw [cells9F] at t0
  rw [cellsObjF] at t1
  have u0 : DataW.trod enc Try.prog w base sp held n 9 [c0] = some y0 := t0
  have u1 : DataW.trod enc Try.prog w base sp held n 34 [c1, c2] = some y1 := t1
  obtain ⟨nm, e0, -, hnm⟩ := DataW.trod_string Try.underlying9 u0
  obtain ⟨o, d0, d1, e1, ho⟩ := open_obj u1
  simp only [List.cons.injEq, and_true] at e0 e1
  obtain ⟨rfl, rfl⟩ := e1
  subst e0
  obtain ⟨aa, ca, ba, cb, hv⟩ := ho.two
  simp only [Value.agg.injEq, Array.mk.injEq, List.cons.injEq, and_true] at hv
  obtain ⟨rfl, rfl⟩ := hv
  exact ⟨⟨nm, o⟩, _, _, _, rfl, aa, ca, ba, cb, rfl, hnm, ho⟩
theorem open_parts {fuel : Nat} {cs : List Value} {x : DataW H × List MemPlace} (h : DataW.trod enc Try.prog w base sp held fuel 22 cs = some x) : ∃ (a : Option Addr) (cap : Nat) (l : List TP), cs = [.slice a l.length cap] ∧ l.length ≤ maxLen ∧ IsPas (IsPa w 0 w.heap.size) w 0 w.heap.size a l := by
  obtain ⟨a, cap, l, e, hl, hr⟩ := open_rowF Try.underlying22 cellsPartF (by omega) h (fun n' cs (e : TP) => ∃ c0 c1 c2 : Value, cs = [c0, c1, c2] ∧ IsPa w 0 w.heap.size (.agg #[c0, c1, c2]) e) (fun n' _ cs x hx => open_part hx)
  refine ⟨a, cap, l, e, hl.1, ?_⟩
  rcases hr with h | ⟨b, off, n', hn, ha, hb, hj⟩
  · exact .inl h
  · refine .inr ⟨b, off, ha, Nat.zero_le _, hb, fun j hjl => ?_⟩
    obtain ⟨cs, _, hc, c0, c1, c2, rfl, hE⟩ := hj j hjl
    exact ⟨c0, c1, c2, hc 0 (by omega), hc 1 (by omega), hc 2 (by omega), hE⟩
end Go.Proofs.Ytakcpfmpaopfdaa
