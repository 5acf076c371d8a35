/- A tree that came in can be read: what the walk of a law is told of it. No conditions. -/
import Derived.Test.YtgmohnbjfemebaaGreatDoorTb
import Derived.ProofKit
import Derived.OpenShut
import Derived.ShutString
import Derived.ChangeOld
namespace Go.Proofs.YtgmohnbjfemebaaGreatDoor
open Go.ChangeShapes Go.WideShapes Go.ChangeAt Go.RowKit Go.PlainAid

theorem cells68 : Tryz.prog.cellsOf 54 = 5 := by kernel_rfl
theorem cells3 : Tryz.prog.cellsOf 3 = 1 := by kernel_rfl
theorem cells9 : Tryz.prog.cellsOf 9 = 1 := by kernel_rfl
theorem cells24 : Tryz.prog.cellsOf 48 = 1 := by kernel_rfl
theorem IsE.up {w : World} {lo n : Nat} : ∀ (h : Nat) (v : Value) (e : TE), IsE w lo n h v e → IsE w lo n (h + 1) v e
  | 0, _, _, hE => hE.elim
  | h + 1, v, .node k q nm md kids, hE => by
    obtain ⟨a, cap, rfl, hz, hk⟩ := hE
    exact ⟨a, cap, rfl, hz, hk.mono (IsE.up h) (fun _ _ _ => rfl) (Nat.le_refl _) (Nat.le_refl _)⟩
theorem list_of {α : Type} (n : Nat) (p : Nat → α → Prop) (h : ∀ i, i < n → ∃ e, p i e) : ∃ l : List α, l.length = n ∧ ∀ i (hi : i < l.length), p i l[i] := by
  refine ⟨List.ofFn (fun i : Fin n => Classical.choose (h i.1 i.2)), by simp, fun i hi => ?_⟩
  rw [List.getElem_ofFn]
  exact Classical.choose_spec (h i (by simpa using hi))
variable {H : Type} {enc : TypeId × Value → H} {w : World} {base : Nat} {sp : Nat → Bool} {held : Bool}
set_option maxRecDepth 100000 in
theorem open_expr : ∀ (fuel : Nat) (cs : List Value) (x : DataW H × List MemPlace), DataW.trod enc Tryz.prog w base sp held fuel 54 cs = some x →
    ∃ (e : TE) (c0 c1 c2 c3 c4 : Value), cs = [c0, c1, c2, c3, c4] ∧ IsE w 0 w.heap.size fuel (.agg #[c0, c1, c2, c3, c4]) e := by
  intro fuel
  induction fuel using Nat.strongRecOn with
  | ind fuel ih =>
    intro cs x h
    obtain ⟨xs, n, rfl, rfl, hl, hlen, hf⟩ := DataW.trod_struct Tryz.underlying54 h
    rw [cells68] at hl
    match cs, hl with
    | [c0, c1, c2, c3, c4], _ =>
    match xs, hlen with
    | [y0, y1, y2, y3, y4], _ =>
    have t0 : DataW.trod enc Tryz.prog w base sp held n 3 ((([c0, c1, c2, c3, c4] : List Value).drop 0).take (Tryz.prog.cellsOf 3)) = some y0 := hf 0 { name := "Kind", type := 3, offset := 0, embedded := false, tag := "", pkgPath := "", byteOffset := 0 } rfl
    have t1 : DataW.trod enc Tryz.prog w base sp held n 3 ((([c0, c1, c2, c3, c4] : List Value).drop 1).take (Tryz.prog.cellsOf 3)) = some y1 := hf 1 { name := "Num", type := 3, offset := 1, embedded := false, tag := "", pkgPath := "", byteOffset := 8 } rfl
    have t2 : DataW.trod enc Tryz.prog w base sp held n 9 ((([c0, c1, c2, c3, c4] : List Value).drop 2).take (Tryz.prog.cellsOf 9)) = some y2 := hf 2 { name := "Name", type := 9, offset := 2, embedded := false, tag := "", pkgPath := "", byteOffset := 16 } rfl
    have t3 : DataW.trod enc Tryz.prog w base sp held n 9 ((([c0, c1, c2, c3, c4] : List Value).drop 3).take (Tryz.prog.cellsOf 9)) = some y3 := hf 3 { name := "Mod", type := 9, offset := 3, embedded := false, tag := "", pkgPath := "", byteOffset := 32 } rfl
    have t4 : DataW.trod enc Tryz.prog w base sp held n 48 ((([c0, c1, c2, c3, c4] : List Value).drop 4).take (Tryz.prog.cellsOf 48)) = some y4 := hf 4 { name := "Kids", type := 48, offset := 4, embedded := false, tag := "", pkgPath := "", byteOffset := 48 } rfl
    rw [cells3] at t0 t1
    rw [cells9] at t2 t3
    rw [cells24] at t4
    have u0 : DataW.trod enc Tryz.prog w base sp held n 3 [c0] = some y0 := t0
    have u1 : DataW.trod enc Tryz.prog w base sp held n 3 [c1] = some y1 := t1
    have u2 : DataW.trod enc Tryz.prog w base sp held n 9 [c2] = some y2 := t2
    have u3 : DataW.trod enc Tryz.prog w base sp held n 9 [c3] = some y3 := t3
    have u4 : DataW.trod enc Tryz.prog w base sp held n 48 [c4] = some y4 := t4
    obtain ⟨k, e0, -, -⟩ := DataW.trod_int Tryz.underlying3 u0
    obtain ⟨m, e1, -, -⟩ := DataW.trod_int Tryz.underlying3 u1
    obtain ⟨nm, e2, -, hnm⟩ := DataW.trod_string Tryz.underlying9 u2
    obtain ⟨md, e3, -, hmd⟩ := DataW.trod_string Tryz.underlying9 u3
    simp only [List.cons.injEq, and_true] at e0 e1 e2 e3
    subst e0 e1 e2 e3
    rcases DataW.trod_slice Tryz.underlying48 u4 with ⟨e4, -⟩ | ⟨a, len, cap, elems, rest, n', rfl, e4, -, hb, hlc, hcm, hel, heach, -, -⟩
    · simp only [List.cons.injEq, and_true] at e4
      subst e4
      exact ⟨.node k m nm md [], _, _, _, _, _, rfl, none, 0, rfl, ⟨hnm, hmd, Nat.zero_le _⟩, .inl rfl⟩
    · simp only [List.cons.injEq, and_true] at e4
      subst e4
      by_cases h0 : len = 0
      · subst h0
        exact ⟨.node k m nm md [], _, _, _, _, _, rfl, _, cap, rfl, ⟨hnm, hmd, Nat.zero_le _⟩, .inl rfl⟩
      obtain ⟨kids, hkl, hkp⟩ := list_of len (fun i e => ∃ c0 c1 c2 c3 c4 : Value, w.cells? base (a.add (i * 5)) 5 = some [c0, c1, c2, c3, c4] ∧ IsE w 0 w.heap.size n' (.agg #[c0, c1, c2, c3, c4]) e) (fun i hi => by
        have := heach i hi
        rw [cells68, List.getElem?_eq_getElem (by omega), Option.bind_eq_some_iff] at this
        obtain ⟨cs', hcs, htr⟩ := this
        obtain ⟨e, d0, d1, d2, d3, d4, rfl, hE⟩ := ih n' (by omega) cs' _ htr
        exact ⟨e, d0, d1, d2, d3, d4, hcs, hE⟩)
      obtain ⟨b, off, spot⟩ := a
      have hspot : spot = none := by
        obtain ⟨d0, d1, d2, d3, d4, hc, _⟩ := hkp 0 (by omega)
        have := (World.cells?_some hc).2.2 0 (by omega)
        have hs := World.cell?_spot this
        simpa [Addr.add] using hs
      subst hspot
      have hblt : b < w.heap.size := by
        obtain ⟨d0, d1, d2, d3, d4, hc, _⟩ := hkp 0 (by omega)
        have := World.cells?_block hc (by omega)
        simpa [Addr.add] using this
      subst hkl
      refine ⟨.node k m nm md kids, _, _, _, _, _, rfl, some ⟨b, off, none⟩, cap, rfl, ⟨hnm, hmd, by omega⟩, .inr ⟨b, off, rfl, Nat.zero_le _, hblt, fun j hj => ?_⟩⟩
      obtain ⟨d0, d1, d2, d3, d4, hc, hE⟩ := hkp j hj
      obtain ⟨-, -, hg⟩ := World.cells?_some hc
      have ga : ∀ i, i < 5 → w.cell? ⟨b, off + j * 5 + i, none⟩ = ([d0, d1, d2, d3, d4] : List Value)[i]? := fun i hi => by
        have := hg i hi
        have e : (Addr.add (Addr.add ⟨b, off, none⟩ (j * 5)) i) = ⟨b, off + j * 5 + i, none⟩ := by
          unfold Addr.add
          split <;> split <;> simp_all
        rw [e] at this
        exact this
      exact ⟨d0, d1, d2, d3, d4, ga 0 (by omega), ga 1 (by omega), ga 2 (by omega), ga 3 (by omega), ga 4 (by omega), IsE.up _ _ _ hE⟩
end Go.Proofs.YtgmohnbjfemebaaGreatDoor
