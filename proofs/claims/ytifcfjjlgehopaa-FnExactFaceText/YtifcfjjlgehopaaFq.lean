/- A row of signatures that came in can be read: what the walk of a law is told of it. No conditions. -/
import Derived.Test.YtifcfjjlgehopaaFd
import Derived.ProofKit
import Derived.OpenShut
import Derived.ShutString
import Derived.ChangeOld
namespace Go.Proofs.Ytifcfjjlgehopaa
open Go.ChangeShapes Go.WideShapes Go.ChangeAt Go.RowKit Go.PlainAid

theorem cellsSigF : Try.prog.cellsOf 46 = 3 := by kernel_rfl
theorem cellsIntsF : Try.prog.cellsOf 44 = 1 := by kernel_rfl
theorem cells9F : Try.prog.cellsOf 9 = 1 := by kernel_rfl
theorem cells3F : Try.prog.cellsOf 3 = 1 := by kernel_rfl
theorem list_ofF {α : Type} (n : Nat) (p : Nat → α → Prop) (h : ∀ i, i < n → ∃ e, p i e) : ∃ l : List α, l.length = n ∧ ∀ i (hi : i < l.length), p i l[i] := by
  refine ⟨List.ofFn (fun i : Fin n => Classical.choose (h i.1 i.2)), by simp, fun i hi => ?_⟩
  rw [List.getElem_ofFn]
  exact Classical.choose_spec (h i (by simpa using hi))
variable {H : Type} {enc : TypeId × Value → H} {w : World} {base : Nat} {sp : Nat → Bool} {held : Bool}
theorem open_rowF {T E k : Nat} (hT : Try.prog.underlying T = some (.slice E)) (hk : Try.prog.cellsOf E = k) (hk0 : 0 < k) {fuel : Nat} {cs : List Value} {x : DataW H × List MemPlace} (h : DataW.trod enc Try.prog w base sp held fuel T cs = some x) {α : Type} (Q : Nat → List Value → α → Prop)
    (hQ : ∀ n', n' < fuel → ∀ (cs : List Value) (x : DataW H × List MemPlace), DataW.trod enc Try.prog w base sp held n' E cs = some x → ∃ e, Q n' cs e) :
    ∃ (a : Option Addr) (cap : Nat) (l : List α), cs = [.slice a l.length cap] ∧ (l.length ≤ maxLen ∧ l.length ≤ cap) ∧ (l = [] ∨ ∃ b off n' : Nat, n' < fuel ∧ a = some ⟨b, off, none⟩ ∧ b < w.heap.size ∧ ∀ j (hj : j < l.length), ∃ cs : List Value, cs.length = k ∧ (∀ i, i < k → w.cell? ⟨b, off + j * k + i, none⟩ = cs[i]?) ∧ Q n' cs l[j]) := by
  rcases DataW.trod_slice hT h with ⟨e4, -⟩ | ⟨a, len, cap, elems, rest, n', rfl, e4, -, hb, hlc, hcm, hel, heach, -, -⟩
  · exact ⟨none, 0, [], e4, ⟨Nat.zero_le _, Nat.zero_le _⟩, .inl rfl⟩
  · by_cases h0 : len = 0
    · subst h0
      exact ⟨_, cap, [], e4, ⟨Nat.zero_le _, Nat.zero_le _⟩, .inl rfl⟩
    obtain ⟨l, hkl, hkp⟩ := list_ofF len (fun i e => ∃ cs : List Value, w.cells? base (a.add (i * k)) k = some cs ∧ Q n' cs e) (fun i hi => by
      have := heach i hi
      rw [hk, List.getElem?_eq_getElem (by omega), Option.bind_eq_some_iff] at this
      obtain ⟨cs', hcs, htr⟩ := this
      obtain ⟨e, he⟩ := hQ n' (by omega) cs' _ htr
      exact ⟨e, cs', hcs, he⟩)
    obtain ⟨b, off, spot⟩ := a
    have hspot : spot = none := by
      obtain ⟨cs, hc, _⟩ := hkp 0 (by omega)
      have := (World.cells?_some hc).2.2 0 (by omega)
      have hl := (World.cells?_some hc).2.1
      rw [List.getElem?_eq_getElem (by omega)] at this
      have hs := World.cell?_spot this
      simpa [Addr.add] using hs
    subst hspot
    have hblt : b < w.heap.size := by
      obtain ⟨cs, hc, _⟩ := hkp 0 (by omega)
      have := World.cells?_block hc (by omega)
      simpa [Addr.add] using this
    subst hkl
    refine ⟨some ⟨b, off, none⟩, cap, l, e4, ⟨by omega, by omega⟩, .inr ⟨b, off, n', by omega, rfl, hblt, fun j hj => ?_⟩⟩
    obtain ⟨cs, hc, hE⟩ := hkp j hj
    obtain ⟨-, hl, hg⟩ := World.cells?_some hc
    refine ⟨cs, hl, fun i hi => ?_, hE⟩
    have := hg i hi
    have e : (Addr.add (Addr.add ⟨b, off, none⟩ (j * k)) i) = ⟨b, off + j * k + i, none⟩ := by
      unfold Addr.add
      split <;> split <;> simp_all
    rw [e] at this
    exact this
theorem open_intsF {fuel : Nat} {cs : List Value} {x : DataW H × List MemPlace} (h : DataW.trod enc Try.prog w base sp held fuel 44 cs = some x) : ∃ (a : Option Addr) (cap : Nat) (l : List Int), cs = [.slice a l.length cap] ∧ l.length ≤ maxLen ∧ IsInts w 0 w.heap.size a l := by
  obtain ⟨a, cap, l, e, hl, hr⟩ := open_rowF Try.underlying44 cells3F (by omega) h (fun n' cs (e : Int) => cs = [.int .i64 e]) (fun n' _ cs x hx => by
    obtain ⟨k, e2, -, -⟩ := DataW.trod_int Try.underlying3 hx
    exact ⟨k, e2⟩)
  refine ⟨a, cap, l, e, hl.1, ?_⟩
  rcases hr with h | ⟨b, off, n', hn, ha, hb, hj⟩
  · exact .inl h
  · refine .inr ⟨b, off, ha, Nat.zero_le _, hb, fun j hjl => ?_⟩
    obtain ⟨cs, _, hc, rfl⟩ := hj j hjl
    have := hc 0 (by omega)
    rw [Nat.mul_one] at this
    exact this
set_option maxRecDepth 100000 in
theorem open_sig {fuel : Nat} {cs : List Value} {x : DataW H × List MemPlace} (h : DataW.trod enc Try.prog w base sp held fuel 46 cs = some x) : ∃ (e : TS) (c0 c1 c2 : Value), cs = [c0, c1, c2] ∧ IsSig w 0 w.heap.size (.agg #[c0, c1, c2]) e := by
  obtain ⟨xs, n, rfl, rfl, hl, hlen, hf⟩ := DataW.trod_struct Try.underlying46 h
  rw [cellsSigF] at hl
  match cs, hl with
  | [c0, c1, c2], _ =>
  match xs, hlen with
  | [y0, y1, y2], _ =>
  have t0 : DataW.trod enc Try.prog w base sp held n 9 ((([c0, c1, c2] : List Value).drop 0).take (Try.prog.cellsOf 9)) = some y0 := hf 0 { name := "Name", type := 9, offset := 0, embedded := false, tag := "", pkgPath := "", byteOffset := 0 } rfl
  have t1 : DataW.trod enc Try.prog w base sp held n 44 ((([c0, c1, c2] : List Value).drop 1).take (Try.prog.cellsOf 44)) = some y1 := hf 1 { name := "Args", type := 44, offset := 1, embedded := false, tag := "", pkgPath := "", byteOffset := 16 } rfl
  have t2 : DataW.trod enc Try.prog w base sp held n 3 ((([c0, c1, c2] : List Value).drop 2).take (Try.prog.cellsOf 3)) = some y2 := hf 2 { name := "Type", type := 3, offset := 2, embedded := false, tag := "", pkgPath := "", byteOffset := 40 } rfl
  rw [cells9F] at t0
  rw [cellsIntsF] at t1
  rw [cells3F] at t2
  have u0 : DataW.trod enc Try.prog w base sp held n 9 [c0] = some y0 := t0
  have u1 : DataW.trod enc Try.prog w base sp held n 44 [c1] = some y1 := t1
  have u2 : DataW.trod enc Try.prog w base sp held n 3 [c2] = some y2 := t2
  obtain ⟨nm, e0, -, hnm⟩ := DataW.trod_string Try.underlying9 u0
  obtain ⟨aa, ca, zs, e1, hz, hI⟩ := open_intsF u1
  obtain ⟨k, e2, -, -⟩ := DataW.trod_int Try.underlying3 u2
  simp only [List.cons.injEq, and_true] at e0 e1 e2
  subst e0 e1 e2
  exact ⟨⟨nm, zs, k⟩, _, _, _, rfl, aa, ca, rfl, ⟨hnm, hz⟩, hI⟩
theorem open_sigs {fuel : Nat} {cs : List Value} {x : DataW H × List MemPlace} (h : DataW.trod enc Try.prog w base sp held fuel 22 cs = some x) : ∃ (a : Option Addr) (cap : Nat) (l : List TS), cs = [.slice a l.length cap] ∧ l.length ≤ maxLen ∧ IsSigs (IsSig w 0 w.heap.size) w 0 w.heap.size a l := by
  obtain ⟨a, cap, l, e, hl, hr⟩ := open_rowF Try.underlying22 cellsSigF (by omega) h (fun n' cs (e : TS) => ∃ c0 c1 c2 : Value, cs = [c0, c1, c2] ∧ IsSig w 0 w.heap.size (.agg #[c0, c1, c2]) e) (fun n' _ cs x hx => open_sig hx)
  refine ⟨a, cap, l, e, hl.1, ?_⟩
  rcases hr with h | ⟨b, off, n', hn, ha, hb, hj⟩
  · exact .inl h
  · refine .inr ⟨b, off, ha, Nat.zero_le _, hb, fun j hjl => ?_⟩
    obtain ⟨cs, _, hc, c0, c1, c2, rfl, hE⟩ := hj j hjl
    exact ⟨c0, c1, c2, hc 0 (by omega), hc 1 (by omega), hc 2 (by omega), hE⟩
end Go.Proofs.Ytifcfjjlgehopaa
