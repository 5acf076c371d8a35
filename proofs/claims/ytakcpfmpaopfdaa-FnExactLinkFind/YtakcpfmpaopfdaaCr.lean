/- An object that came in can be read: what the walk of a law is told of it. No conditions. -/
import Derived.Test.YtakcpfmpaopfdaaCi
import Derived.ProofKit
import Derived.OpenShut
import Derived.ShutString
import Derived.ChangeOld
namespace Go.Proofs.Ytakcpfmpaopfdaa
open Go.ChangeShapes Go.WideShapes Go.ChangeAt Go.RowKit Go.PlainAid

theorem cellsIntsF : Try.prog.cellsOf 57 = 1 := by kernel_rfl
theorem cells9F : Try.prog.cellsOf 9 = 1 := by kernel_rfl
theorem cells3F : Try.prog.cellsOf 3 = 1 := by kernel_rfl
theorem cells4F : Try.prog.cellsOf 4 = 1 := by kernel_rfl
theorem cellsInsF : Try.prog.cellsOf 92 = 2 := by kernel_rfl
theorem cellsInssF : Try.prog.cellsOf 75 = 1 := by kernel_rfl
theorem cellsRefF : Try.prog.cellsOf 73 = 2 := by kernel_rfl
theorem cellsRefsF : Try.prog.cellsOf 31 = 1 := by kernel_rfl
theorem cellsFunF : Try.prog.cellsOf 77 = 6 := by kernel_rfl
theorem cellsFunsF : Try.prog.cellsOf 32 = 1 := by kernel_rfl
theorem cellsObjF : Try.prog.cellsOf 34 = 2 := by kernel_rfl
theorem list_ofF {α : Type} (n : Nat) (p : Nat → α → Prop) (h : ∀ i, i < n → ∃ e, p i e) : ∃ l : List α, l.length = n ∧ ∀ i (hi : i < l.length), p i l[i] := by
  refine ⟨List.ofFn (fun i : Fin n => Classical.choose (h i.1 i.2)), by simp, fun i hi => ?_⟩
  rw [List.getElem_ofFn]
  exact Classical.choose_spec (h i (by simpa using hi))
variable {H : Type} {enc : TypeId × Value → H} {w : World} {base : Nat} {sp : Nat → Bool} {held : Bool}
theorem open_rowF {T E k : Nat} (hT : Try.prog.underlying T = some (.slice E)) (hk : Try.prog.cellsOf E = k) (hk0 : 0 < k) {fuel : Nat} {cs : List Value} {x : DataW H × List MemPlace} (h : DataW.trod enc Try.prog w base sp held fuel T cs = some x) {α : Type} (Q : Nat → List Value → α → Prop)
    (hQ : ∀ n', n' < fuel → ∀ (cs : List Value) (x : DataW H × List MemPlace), DataW.trod enc Try.prog w base sp held n' E cs = some x → ∃ e, Q n' cs e) :
    ∃ (a : Option Addr) (cap : Nat) (l : List α), cs = [.slice a l.length cap] ∧ (l.length ≤ maxLen ∧ l.length ≤ cap) ∧ (l = [] ∨ ∃ b off n' : Nat, n' < fuel ∧ a = some ⟨b, off, none⟩ ∧ b < w.heap.size ∧ ∀ j (hj : j < l.length), ∃ cs : List Value, cs.length = k ∧ (∀ i, i < k → w.cell? ⟨b, off + j * k + i, none⟩ = cs[i]?) ∧ Q n' cs l[j]) := by
  rcases DataW.trod_slice hT h with ⟨e4, -⟩ | ⟨a, len, cap, elems, rest, n', rfl, e4, -, hb, hlc, hcm, hel, heach, -, -⟩
  · exact ⟨none, 0, [], e4, ⟨Nat.zero_le _, Nat.zero_le _⟩, .inl rfl⟩
  · by_cases h0 : len = 0
    · subst h0
      exact ⟨_, cap, [], e4, ⟨Nat.zero_le _, Nat.zero_le _⟩, .inl rfl⟩
    obtain ⟨l, hkl, hkp⟩ := list_ofF len (fun i e => ∃ cs : List Value, w.cells? base (a.add (i * k)) k = some cs ∧ Q n' cs e) (fun i hi => by
      have := heach i hi
      rw [hk, List.getElem?_eq_getElem (by omega), Option.bind_eq_some_iff] at this
      obtain ⟨cs', hcs, htr⟩ := this
      obtain ⟨e, he⟩ := hQ n' (by omega) cs' _ htr
      exact ⟨e, cs', hcs, he⟩)
    obtain ⟨b, off, spot⟩ := a
    have hspot : spot = none := by
      obtain ⟨cs, hc, _⟩ := hkp 0 (by omega)
      have := (World.cells?_some hc).2.2 0 (by omega)
      have hl := (World.cells?_some hc).2.1
      rw [List.getElem?_eq_getElem (by omega)] at this
      have hs := World.cell?_spot this
      simpa [Addr.add] using hs
    subst hspot
    have hblt : b < w.heap.size := by
      obtain ⟨cs, hc, _⟩ := hkp 0 (by omega)
      have := World.cells?_block hc (by omega)
      simpa [Addr.add] using this
    subst hkl
    refine ⟨some ⟨b, off, none⟩, cap, l, e4, ⟨by omega, by omega⟩, .inr ⟨b, off, n', by omega, rfl, hblt, fun j hj => ?_⟩⟩
    obtain ⟨cs, hc, hE⟩ := hkp j hj
    obtain ⟨-, hl, hg⟩ := World.cells?_some hc
    refine ⟨cs, hl, fun i hi => ?_, hE⟩
    have := hg i hi
    have e : (Addr.add (Addr.add ⟨b, off, none⟩ (j * k)) i) = ⟨b, off + j * k + i, none⟩ := by
      unfold Addr.add
      split <;> split <;> simp_all
    rw [e] at this
    exact this
theorem open_intsF {fuel : Nat} {cs : List Value} {x : DataW H × List MemPlace} (h : DataW.trod enc Try.prog w base sp held fuel 57 cs = some x) : ∃ (a : Option Addr) (cap : Nat) (l : List Int), cs = [.slice a l.length cap] ∧ l.length ≤ maxLen ∧ IsInts w 0 w.heap.size a l := by
  obtain ⟨a, cap, l, e, hl, hr⟩ := open_rowF Try.underlying57 cells3F (by omega) h (fun n' cs (e : Int) => cs = [.int .i64 e]) (fun n' _ cs x hx => by
    obtain ⟨k, e2, -, -⟩ := DataW.trod_int Try.underlying3 hx
    exact ⟨k, e2⟩)
  refine ⟨a, cap, l, e, hl.1, ?_⟩
  rcases hr with h | ⟨b, off, n', hn, ha, hb, hj⟩
  · exact .inl h
  · refine .inr ⟨b, off, ha, Nat.zero_le _, hb, fun j hjl => ?_⟩
    obtain ⟨cs, _, hc, rfl⟩ := hj j hjl
    have := hc 0 (by omega)
    rw [Nat.mul_one] at this
    exact this
set_option maxRecDepth 100000 in
theorem open_ins {fuel : Nat} {cs : List Value} {x : DataW H × List MemPlace} (h : DataW.trod enc Try.prog w base sp held fuel 92 cs = some x) : ∃ (e : TI) (c0 c1 : Value), cs = [c0, c1] ∧ IsCi w 0 w.heap.size (.agg #[c0, c1]) e := by
  obtain ⟨xs, n, rfl, rfl, hl, hlen, hf⟩ := DataW.trod_struct Try.underlying92 h
  rw [cellsInsF] at hl
  match cs, hl with
  | [c0, c1], _ =>
  match xs, hlen with
  | [y0, y1], _ =>
  have t0 : DataW.trod enc Try.prog w base sp held n 3 ((([c0, c1] : List Value).drop 0).take (Try.prog.cellsOf 3)) = some y0 := hf 0 { name := "Op", type := 3, offset := 0, embedded := false, tag := "", pkgPath := "", byteOffset := 0 } rfl
  have t1 : DataW.trod enc Try.prog w base sp held n 3 ((([c0, c1] : List Value).drop 1).take (Try.prog.cellsOf 3)) = some y1 := hf 1 { name := "A", type := 3, offset := 1, embedded := false, tag := "", pkgPath := "", byteOffset := 8 } rfl
  rw [cells3F] at t0
  rw [cells3F] at t1
  have u0 : DataW.trod enc Try.prog w base sp held n 3 [c0] = some y0 := t0
  have u1 : DataW.trod enc Try.prog w base sp held n 3 [c1] = some y1 := t1
  obtain ⟨xo, e0, -, -⟩ := DataW.trod_int Try.underlying3 u0
  obtain ⟨xa, e1, -, -⟩ := DataW.trod_int Try.underlying3 u1
  simp only [List.cons.injEq, and_true] at e0 e1
  subst e0 e1
  exact ⟨⟨xo, xa⟩, _, _, rfl, rfl⟩
theorem open_inss {fuel : Nat} {cs : List Value} {x : DataW H × List MemPlace} (h : DataW.trod enc Try.prog w base sp held fuel 75 cs = some x) : ∃ (a : Option Addr) (cap : Nat) (l : List TI), cs = [.slice a l.length cap] ∧ l.length ≤ maxLen ∧ IsCis (IsCi w 0 w.heap.size) w 0 w.heap.size a l := by
  obtain ⟨a, cap, l, e, hl, hr⟩ := open_rowF Try.underlying75 cellsInsF (by omega) h (fun n' cs (e : TI) => ∃ c0 c1 : Value, cs = [c0, c1] ∧ IsCi w 0 w.heap.size (.agg #[c0, c1]) e) (fun n' _ cs x hx => open_ins hx)
  refine ⟨a, cap, l, e, hl.1, ?_⟩
  rcases hr with h | ⟨b, off, n', hn, ha, hb, hj⟩
  · exact .inl h
  · refine .inr ⟨b, off, ha, Nat.zero_le _, hb, fun j hjl => ?_⟩
    obtain ⟨cs, _, hc, c0, c1, rfl, hE⟩ := hj j hjl
    exact ⟨c0, c1, hc 0 (by omega), hc 1 (by omega), hE⟩
set_option maxRecDepth 100000 in
theorem open_ref {fuel : Nat} {cs : List Value} {x : DataW H × List MemPlace} (h : DataW.trod enc Try.prog w base sp held fuel 73 cs = some x) : ∃ (e : TR) (c0 c1 : Value), cs = [c0, c1] ∧ IsCr w 0 w.heap.size (.agg #[c0, c1]) e := by
  obtain ⟨xs, n, rfl, rfl, hl, hlen, hf⟩ := DataW.trod_struct Try.underlying73 h
  rw [cellsRefF] at hl
  match cs, hl with
  | [c0, c1], _ =>
  match xs, hlen with
  | [y0, y1], _ =>
  have t0 : DataW.trod enc Try.prog w base sp held n 9 ((([c0, c1] : List Value).drop 0).take (Try.prog.cellsOf 9)) = some y0 := hf 0 { name := "Mod", type := 9, offset := 0, embedded := false, tag := "", pkgPath := "", byteOffset := 0 } rfl
  have t1 : DataW.trod enc Try.prog w base sp held n 9 ((([c0, c1] : List Value).drop 1).take (Try.prog.cellsOf 9)) = some y1 := hf 1 { name := "Name", type := 9, offset := 1, embedded := false, tag := "", pkgPath := "", byteOffset := 16 } rfl
  rw [cells9F] at t0
  rw [cells9F] at t1
  have u0 : DataW.trod enc Try.prog w base sp held n 9 [c0] = some y0 := t0
  have u1 : DataW.trod enc Try.prog w base sp held n 9 [c1] = some y1 := t1
  obtain ⟨xo, e0, -, hnmxo⟩ := DataW.trod_string Try.underlying9 u0
  obtain ⟨xa, e1, -, hnmxa⟩ := DataW.trod_string Try.underlying9 u1
  simp only [List.cons.injEq, and_true] at e0 e1
  subst e0 e1
  exact ⟨⟨xo, xa⟩, _, _, rfl, rfl, hnmxo, hnmxa⟩
theorem open_refs {fuel : Nat} {cs : List Value} {x : DataW H × List MemPlace} (h : DataW.trod enc Try.prog w base sp held fuel 31 cs = some x) : ∃ (a : Option Addr) (cap : Nat) (l : List TR), cs = [.slice a l.length cap] ∧ l.length ≤ maxLen ∧ IsCrs (IsCr w 0 w.heap.size) w 0 w.heap.size a l := by
  obtain ⟨a, cap, l, e, hl, hr⟩ := open_rowF Try.underlying31 cellsRefF (by omega) h (fun n' cs (e : TR) => ∃ c0 c1 : Value, cs = [c0, c1] ∧ IsCr w 0 w.heap.size (.agg #[c0, c1]) e) (fun n' _ cs x hx => open_ref hx)
  refine ⟨a, cap, l, e, hl.1, ?_⟩
  rcases hr with h | ⟨b, off, n', hn, ha, hb, hj⟩
  · exact .inl h
  · refine .inr ⟨b, off, ha, Nat.zero_le _, hb, fun j hjl => ?_⟩
    obtain ⟨cs, _, hc, c0, c1, rfl, hE⟩ := hj j hjl
    exact ⟨c0, c1, hc 0 (by omega), hc 1 (by omega), hE⟩
set_option maxRecDepth 100000 in
theorem open_cf {fuel : Nat} {cs : List Value} {x : DataW H × List MemPlace} (h : DataW.trod enc Try.prog w base sp held fuel 77 cs = some x) : ∃ (e : TC) (c0 c1 c2 c3 c4 c5 : Value), cs = [c0, c1, c2, c3, c4, c5] ∧ IsCf w 0 w.heap.size (.agg #[c0, c1, c2, c3, c4, c5]) e := by
  obtain ⟨xs, n, rfl, rfl, hl, hlen, hf⟩ := DataW.trod_struct Try.underlying77 h
  rw [cellsFunF] at hl
  match cs, hl with
  | [c0, c1, c2, c3, c4, c5], _ =>
  match xs, hlen with
  | [y0, y1, y2, y3, y4, y5], _ =>
  have t0 : DataW.trod enc Try.prog w base sp held n 9 ((([c0, c1, c2, c3, c4, c5] : List Value).drop 0).take (Try.prog.cellsOf 9)) = some y0 := hf 0 { name := "Name", type := 9, offset := 0, embedded := false, tag := "", pkgPath := "", byteOffset := 0 } rfl
  have t1 : DataW.trod enc Try.prog w base sp held n 4 ((([c0, c1, c2, c3, c4, c5] : List Value).drop 1).take (Try.prog.cellsOf 4)) = some y1 := hf 1 { name := "Pub", type := 4, offset := 1, embedded := false, tag := "", pkgPath := "", byteOffset := 16 } rfl
  have t2 : DataW.trod enc Try.prog w base sp held n 57 ((([c0, c1, c2, c3, c4, c5] : List Value).drop 2).take (Try.prog.cellsOf 57)) = some y2 := hf 2 { name := "Args", type := 57, offset := 2, embedded := false, tag := "", pkgPath := "", byteOffset := 24 } rfl
  have t3 : DataW.trod enc Try.prog w base sp held n 3 ((([c0, c1, c2, c3, c4, c5] : List Value).drop 3).take (Try.prog.cellsOf 3)) = some y3 := hf 3 { name := "Type", type := 3, offset := 3, embedded := false, tag := "", pkgPath := "", byteOffset := 48 } rfl
  have t4 : DataW.trod enc Try.prog w base sp held n 3 ((([c0, c1, c2, c3, c4, c5] : List Value).drop 4).take (Try.prog.cellsOf 3)) = some y4 := hf 4 { name := "Slots", type := 3, offset := 4, embedded := false, tag := "", pkgPath := "", byteOffset := 56 } rfl
  have t5 : DataW.trod enc Try.prog w base sp held n 75 ((([c0, c1, c2, c3, c4, c5] : List Value).drop 5).take (Try.prog.cellsOf 75)) = some y5 := hf 5 { name := "Code", type := 75, offset := 5, embedded := false, tag := "", pkgPath := "", byteOffset := 64 } rfl
  rw [cells9F] at t0
  rw [cells4F] at t1
  rw [cellsIntsF] at t2
  rw [cells3F] at t3
  rw [cells3F] at t4
  rw [cellsInssF] at t5
  have u0 : DataW.trod enc Try.prog w base sp held n 9 [c0] = some y0 := t0
  have u1 : DataW.trod enc Try.prog w base sp held n 4 [c1] = some y1 := t1
  have u2 : DataW.trod enc Try.prog w base sp held n 57 [c2] = some y2 := t2
  have u3 : DataW.trod enc Try.prog w base sp held n 3 [c3] = some y3 := t3
  have u4 : DataW.trod enc Try.prog w base sp held n 3 [c4] = some y4 := t4
  have u5 : DataW.trod enc Try.prog w base sp held n 75 [c5] = some y5 := t5
  obtain ⟨nm, e0, -, hnmnm⟩ := DataW.trod_string Try.underlying9 u0
  obtain ⟨pb, e1, -⟩ := DataW.trod_bool Try.underlying4 u1
  obtain ⟨aa, ca, args, e2, hl2, hargs⟩ := open_intsF u2
  obtain ⟨ty, e3, -, -⟩ := DataW.trod_int Try.underlying3 u3
  obtain ⟨sl, e4, -, -⟩ := DataW.trod_int Try.underlying3 u4
  obtain ⟨ba, cb, code, e5, hl3, hcode⟩ := open_inss u5
  simp only [List.cons.injEq, and_true] at e0 e1 e2 e3 e4 e5
  subst e0 e1 e2 e3 e4 e5
  exact ⟨⟨nm, pb, args, ty, sl, code⟩, _, _, _, _, _, _, rfl, aa, ca, ba, cb, rfl, ⟨hnmnm, hl2, hl3⟩, hargs, hcode⟩
theorem open_cfs {fuel : Nat} {cs : List Value} {x : DataW H × List MemPlace} (h : DataW.trod enc Try.prog w base sp held fuel 32 cs = some x) : ∃ (a : Option Addr) (cap : Nat) (l : List TC), cs = [.slice a l.length cap] ∧ l.length ≤ maxLen ∧ IsCfs (IsCf w 0 w.heap.size) w 0 w.heap.size a l := by
  obtain ⟨a, cap, l, e, hl, hr⟩ := open_rowF Try.underlying32 cellsFunF (by omega) h (fun n' cs (e : TC) => ∃ c0 c1 c2 c3 c4 c5 : Value, cs = [c0, c1, c2, c3, c4, c5] ∧ IsCf w 0 w.heap.size (.agg #[c0, c1, c2, c3, c4, c5]) e) (fun n' _ cs x hx => open_cf hx)
  refine ⟨a, cap, l, e, hl.1, ?_⟩
  rcases hr with h | ⟨b, off, n', hn, ha, hb, hj⟩
  · exact .inl h
  · refine .inr ⟨b, off, ha, Nat.zero_le _, hb, fun j hjl => ?_⟩
    obtain ⟨cs, _, hc, c0, c1, c2, c3, c4, c5, rfl, hE⟩ := hj j hjl
    exact ⟨c0, c1, c2, c3, c4, c5, hc 0 (by omega), hc 1 (by omega), hc 2 (by omega), hc 3 (by omega), hc 4 (by omega), hc 5 (by omega), hE⟩
set_option maxRecDepth 100000 in
theorem open_obj {fuel : Nat} {cs : List Value} {x : DataW H × List MemPlace} (h : DataW.trod enc Try.prog w base sp held fuel 34 cs = some x) : ∃ (e : TO) (c0 c1 : Value), cs = [c0, c1] ∧ IsObj w 0 w.heap.size (.agg #[c0, c1]) e := by
  obtain ⟨xs, n, rfl, rfl, hl, hlen, hf⟩ := DataW.trod_struct Try.underlying34 h
  rw [cellsObjF] at hl
  match cs, hl with
  | [c0, c1], _ =>
  match xs, hlen with
  | [y0, y1], _ =>
  have t0 : DataW.trod enc Try.prog w base sp held n 31 ((([c0, c1] : List Value).drop 0).take (Try.prog.cellsOf 31)) = some y0 := hf 0 { name := "Refs", type := 31, offset := 0, embedded := false, tag := "", pkgPath := "", byteOffset := 0 } rfl
  have t1 : DataW.trod enc Try.prog w base sp held n 32 ((([c0, c1] : List Value).drop 1).take (Try.prog.cellsOf 32)) = some y1 := hf 1 { name := "Funs", type := 32, offset := 1, embedded := false, tag := "", pkgPath := "", byteOffset := 24 } rfl
  rw [cellsRefsF] at t0
  rw [cellsFunsF] at t1
  have u0 : DataW.trod enc Try.prog w base sp held n 31 [c0] = some y0 := t0
  have u1 : DataW.trod enc Try.prog w base sp held n 32 [c1] = some y1 := t1
  obtain ⟨aa, ca, refs, e0, hl2, hrefs⟩ := open_refs u0
  obtain ⟨ba, cb, funs, e1, hl3, hfuns⟩ := open_cfs u1
  simp only [List.cons.injEq, and_true] at e0 e1
  subst e0 e1
  exact ⟨⟨refs, funs⟩, _, _, rfl, aa, ca, ba, cb, rfl, ⟨hl2, hl3⟩, hrefs, hfuns⟩
end Go.Proofs.Ytakcpfmpaopfdaa
