/- A module that came in can be read: what the walk of a law is told of it. No conditions. -/
import Derived.Test.YtgmohnbjfemebaaGreatDoorUb
import Derived.Test.YtgmohnbjfemebaaGreatDoorTg
namespace Go.Proofs.YtgmohnbjfemebaaGreatDoor
open Go.ChangeShapes Go.WideShapes Go.ChangeAt Go.RowKit Go.PlainAid

theorem cellsFun : Tryz.prog.cellsOf 172 = 9 := by kernel_rfl
theorem cellsArg : Tryz.prog.cellsOf 117 = 2 := by kernel_rfl
theorem cellsMod : Tryz.prog.cellsOf 50 = 3 := by kernel_rfl
theorem cellsWds : Tryz.prog.cellsOf 23 = 1 := by kernel_rfl
theorem cellsFuns : Tryz.prog.cellsOf 47 = 1 := by kernel_rfl
theorem cellsArgs : Tryz.prog.cellsOf 52 = 1 := by kernel_rfl
theorem cellsBool : Tryz.prog.cellsOf 4 = 1 := by kernel_rfl
theorem IsE.upTo {w : World} {lo n : Nat} {h h' : Nat} (hh : h ≤ h') (v : Value) (e : TE) (hE : IsE w lo n h v e) : IsE w lo n h' v e := by
  induction h' with
  | zero => have : h = 0 := by omega
            subst this; exact hE
  | succ k ih =>
    by_cases e : h = k + 1
    · subst e; exact hE
    · exact IsE.up _ _ _ (ih (by omega))
variable {H : Type} {enc : TypeId × Value → H} {w : World} {base : Nat} {sp : Nat → Bool} {held : Bool}
theorem open_row {T E k : Nat} (hT : Tryz.prog.underlying T = some (.slice E)) (hk : Tryz.prog.cellsOf E = k) (hk0 : 0 < k) {fuel : Nat} {cs : List Value} {x : DataW H × List MemPlace} (h : DataW.trod enc Tryz.prog w base sp held fuel T cs = some x) {α : Type} (Q : Nat → List Value → α → Prop)
    (hQ : ∀ n', n' < fuel → ∀ (cs : List Value) (x : DataW H × List MemPlace), DataW.trod enc Tryz.prog w base sp held n' E cs = some x → ∃ e, Q n' cs e) :
    ∃ (a : Option Addr) (cap : Nat) (l : List α), cs = [.slice a l.length cap] ∧ (l.length ≤ maxLen ∧ l.length ≤ cap) ∧ (l = [] ∨ ∃ b off n' : Nat, n' < fuel ∧ a = some ⟨b, off, none⟩ ∧ b < w.heap.size ∧ ∀ j (hj : j < l.length), ∃ cs : List Value, cs.length = k ∧ (∀ i, i < k → w.cell? ⟨b, off + j * k + i, none⟩ = cs[i]?) ∧ Q n' cs l[j]) := by
  rcases DataW.trod_slice hT h with ⟨e4, -⟩ | ⟨a, len, cap, elems, rest, n', rfl, e4, -, hb, hlc, hcm, hel, heach, -, -⟩
  · exact ⟨none, 0, [], e4, ⟨Nat.zero_le _, Nat.zero_le _⟩, .inl rfl⟩
  · by_cases h0 : len = 0
    · subst h0
      exact ⟨_, cap, [], e4, ⟨Nat.zero_le _, Nat.zero_le _⟩, .inl rfl⟩
    obtain ⟨l, hkl, hkp⟩ := list_of len (fun i e => ∃ cs : List Value, w.cells? base (a.add (i * k)) k = some cs ∧ Q n' cs e) (fun i hi => by
      have := heach i hi
      rw [hk, List.getElem?_eq_getElem (by omega), Option.bind_eq_some_iff] at this
      obtain ⟨cs', hcs, htr⟩ := this
      obtain ⟨e, he⟩ := hQ n' (by omega) cs' _ htr
      exact ⟨e, cs', hcs, he⟩)
    obtain ⟨b, off, spot⟩ := a
    have hspot : spot = none := by
      obtain ⟨cs, hc, _⟩ := hkp 0 (by omega)
      have := (World.cells?_some hc).2.2 0 (by omega)
      have hl := (World.cells?_some hc).2.1
      rw [List.getElem?_eq_getElem (by omega)] at this
      have hs := World.cell?_spot this
      simpa [Addr.add] using hs
    subst hspot
    have hblt : b < w.heap.size := by
      obtain ⟨cs, hc, _⟩ := hkp 0 (by omega)
      have := World.cells?_block hc (by omega)
      simpa [Addr.add] using this
    subst hkl
    refine ⟨some ⟨b, off, none⟩, cap, l, e4, ⟨by omega, by omega⟩, .inr ⟨b, off, n', by omega, rfl, hblt, fun j hj => ?_⟩⟩
    obtain ⟨cs, hc, hE⟩ := hkp j hj
    obtain ⟨-, hl, hg⟩ := World.cells?_some hc
    refine ⟨cs, hl, fun i hi => ?_, hE⟩
    have := hg i hi
    have e : (Addr.add (Addr.add ⟨b, off, none⟩ (j * k)) i) = ⟨b, off + j * k + i, none⟩ := by
      unfold Addr.add
      split <;> split <;> simp_all
    rw [e] at this
    exact this
theorem open_kids {fuel : Nat} {cs : List Value} {x : DataW H × List MemPlace} (h : DataW.trod enc Tryz.prog w base sp held fuel 48 cs = some x) : ∃ (a : Option Addr) (cap : Nat) (l : List TE), cs = [.slice a l.length cap] ∧ l.length ≤ maxLen ∧ IsKids (IsE w 0 w.heap.size fuel) w 0 w.heap.size a l := by
  obtain ⟨a, cap, l, e, hl, hr⟩ := open_row Tryz.underlying48 cells68 (by omega) h (fun n' cs (e : TE) => ∃ c0 c1 c2 c3 c4 : Value, cs = [c0, c1, c2, c3, c4] ∧ IsE w 0 w.heap.size n' (.agg #[c0, c1, c2, c3, c4]) e) (fun n' _ cs x hx => by
    obtain ⟨e, c0, c1, c2, c3, c4, h1, h2⟩ := open_expr n' cs x hx
    exact ⟨e, c0, c1, c2, c3, c4, h1, h2⟩)
  refine ⟨a, cap, l, e, hl.1, ?_⟩
  rcases hr with h | ⟨b, off, n', hn, ha, hb, hj⟩
  · exact .inl h
  · refine .inr ⟨b, off, ha, Nat.zero_le _, hb, fun j hjl => ?_⟩
    obtain ⟨cs, _, hc, c0, c1, c2, c3, c4, rfl, hE⟩ := hj j hjl
    exact ⟨c0, c1, c2, c3, c4, hc 0 (by omega), hc 1 (by omega), hc 2 (by omega), hc 3 (by omega), hc 4 (by omega), IsE.upTo (by omega) _ _ hE⟩
theorem open_wds {fuel : Nat} {cs : List Value} {x : DataW H × List MemPlace} (h : DataW.trod enc Tryz.prog w base sp held fuel 23 cs = some x) : ∃ (a : Option Addr) (cap : Nat) (l : List ByteArray), cs = [.slice a l.length cap] ∧ l.length ≤ maxLen ∧ (∀ x ∈ l, x.size ≤ maxLen) ∧ l.length ≤ cap ∧ IsWds w 0 w.heap.size a l := by
  obtain ⟨a, cap, l, e, hl, hr⟩ := open_row Tryz.underlying23 cells9 (by omega) h (fun n' cs (e : ByteArray) => cs = [.string e] ∧ e.size ≤ maxLen) (fun n' _ cs x hx => by
    obtain ⟨nm, e2, -, hnm⟩ := DataW.trod_string Tryz.underlying9 hx
    exact ⟨nm, e2, hnm⟩)
  refine ⟨a, cap, l, e, hl.1, ?_⟩
  rcases hr with h | ⟨b, off, n', hn, ha, hb, hj⟩
  · exact ⟨by rw [h]; intro x hx; simp at hx, hl.2, .inl h⟩
  · refine ⟨fun x hx => ?_, hl.2, .inr ⟨b, off, ha, Nat.zero_le _, hb, fun j hjl => ?_⟩⟩
    · obtain ⟨j, hjl, rfl⟩ := List.getElem_of_mem hx
      obtain ⟨cs, _, hc, rfl, hE⟩ := hj j hjl
      exact hE
    · obtain ⟨cs, _, hc, rfl, hE⟩ := hj j hjl
      have := hc 0 (by omega)
      rw [Nat.mul_one] at this
      exact this
set_option maxRecDepth 100000 in
theorem open_arg {fuel : Nat} {cs : List Value} {x : DataW H × List MemPlace} (h : DataW.trod enc Tryz.prog w base sp held fuel 117 cs = some x) : ∃ (e : TA) (c0 c1 : Value), cs = [c0, c1] ∧ IsArg w 0 w.heap.size (.agg #[c0, c1]) e := by
  obtain ⟨xs, n, rfl, rfl, hl, hlen, hf⟩ := DataW.trod_struct Tryz.underlying117 h
  rw [cellsArg] at hl
  match cs, hl with
  | [c0, c1], _ =>
  match xs, hlen with
  | [y0, y1], _ =>
  have t0 : DataW.trod enc Tryz.prog w base sp held n 9 ((([c0, c1] : List Value).drop 0).take (Tryz.prog.cellsOf 9)) = some y0 := hf 0 { name := "Name", type := 9, offset := 0, embedded := false, tag := "", pkgPath := "", byteOffset := 0 } rfl
  have t1 : DataW.trod enc Tryz.prog w base sp held n 3 ((([c0, c1] : List Value).drop 1).take (Tryz.prog.cellsOf 3)) = some y1 := hf 1 { name := "Type", type := 3, offset := 1, embedded := false, tag := "", pkgPath := "", byteOffset := 16 } rfl
  rw [cells9] at t0
  rw [cells3] at t1
  have u0 : DataW.trod enc Tryz.prog w base sp held n 9 [c0] = some y0 := t0
  have u1 : DataW.trod enc Tryz.prog w base sp held n 3 [c1] = some y1 := t1
  obtain ⟨nm, e0, -, hnm⟩ := DataW.trod_string Tryz.underlying9 u0
  obtain ⟨k, e1, -, -⟩ := DataW.trod_int Tryz.underlying3 u1
  simp only [List.cons.injEq, and_true] at e0 e1
  subst e0 e1
  exact ⟨⟨nm, k⟩, _, _, rfl, rfl, hnm⟩
theorem open_args {fuel : Nat} {cs : List Value} {x : DataW H × List MemPlace} (h : DataW.trod enc Tryz.prog w base sp held fuel 52 cs = some x) : ∃ (a : Option Addr) (cap : Nat) (l : List TA), cs = [.slice a l.length cap] ∧ l.length ≤ maxLen ∧ IsArgs (IsArg w 0 w.heap.size) w 0 w.heap.size a l := by
  obtain ⟨a, cap, l, e, hl, hr⟩ := open_row Tryz.underlying52 cellsArg (by omega) h (fun n' cs (e : TA) => ∃ c0 c1 : Value, cs = [c0, c1] ∧ IsArg w 0 w.heap.size (.agg #[c0, c1]) e) (fun n' _ cs x hx => open_arg hx)
  refine ⟨a, cap, l, e, hl.1, ?_⟩
  rcases hr with h | ⟨b, off, n', hn, ha, hb, hj⟩
  · exact .inl h
  · refine .inr ⟨b, off, ha, Nat.zero_le _, hb, fun j hjl => ?_⟩
    obtain ⟨cs, _, hc, c0, c1, rfl, hE⟩ := hj j hjl
    exact ⟨c0, c1, hc 0 (by omega), hc 1 (by omega), hE⟩
set_option maxRecDepth 100000 in
theorem open_fun {fuel : Nat} {cs : List Value} {x : DataW H × List MemPlace} (h : DataW.trod enc Tryz.prog w base sp held fuel 172 cs = some x) : ∃ (e : TF) (c0 c1 c2 c3 c4 c5 c6 c7 c8 : Value), cs = [c0, c1, c2, c3, c4, c5, c6, c7, c8] ∧ IsFun w 0 w.heap.size fuel (.agg #[c0, c1, c2, c3, c4, c5, c6, c7, c8]) e := by
  obtain ⟨xs, n, rfl, rfl, hl, hlen, hf⟩ := DataW.trod_struct Tryz.underlying172 h
  rw [cellsFun] at hl
  match cs, hl with
  | [c0, c1, c2, c3, c4, c5, c6, c7, c8], _ =>
  match xs, hlen with
  | [y0, y1, y2, y3, y4], _ =>
  have t0 : DataW.trod enc Tryz.prog w base sp held n 9 ((([c0, c1, c2, c3, c4, c5, c6, c7, c8] : List Value).drop 0).take (Tryz.prog.cellsOf 9)) = some y0 := hf 0 { name := "Name", type := 9, offset := 0, embedded := false, tag := "", pkgPath := "", byteOffset := 0 } rfl
  have t1 : DataW.trod enc Tryz.prog w base sp held n 4 ((([c0, c1, c2, c3, c4, c5, c6, c7, c8] : List Value).drop 1).take (Tryz.prog.cellsOf 4)) = some y1 := hf 1 { name := "Pub", type := 4, offset := 1, embedded := false, tag := "", pkgPath := "", byteOffset := 16 } rfl
  have t2 : DataW.trod enc Tryz.prog w base sp held n 52 ((([c0, c1, c2, c3, c4, c5, c6, c7, c8] : List Value).drop 2).take (Tryz.prog.cellsOf 52)) = some y2 := hf 2 { name := "Args", type := 52, offset := 2, embedded := false, tag := "", pkgPath := "", byteOffset := 24 } rfl
  have t3 : DataW.trod enc Tryz.prog w base sp held n 3 ((([c0, c1, c2, c3, c4, c5, c6, c7, c8] : List Value).drop 3).take (Tryz.prog.cellsOf 3)) = some y3 := hf 3 { name := "Type", type := 3, offset := 3, embedded := false, tag := "", pkgPath := "", byteOffset := 48 } rfl
  have t4 : DataW.trod enc Tryz.prog w base sp held n 54 ((([c0, c1, c2, c3, c4, c5, c6, c7, c8] : List Value).drop 4).take (Tryz.prog.cellsOf 54)) = some y4 := hf 4 { name := "Body", type := 54, offset := 4, embedded := false, tag := "", pkgPath := "", byteOffset := 56 } rfl
  rw [cells9] at t0
  rw [cellsBool] at t1
  rw [cellsArgs] at t2
  rw [cells3] at t3
  rw [cells68] at t4
  have u0 : DataW.trod enc Tryz.prog w base sp held n 9 [c0] = some y0 := t0
  have u1 : DataW.trod enc Tryz.prog w base sp held n 4 [c1] = some y1 := t1
  have u2 : DataW.trod enc Tryz.prog w base sp held n 52 [c2] = some y2 := t2
  have u3 : DataW.trod enc Tryz.prog w base sp held n 3 [c3] = some y3 := t3
  have u4 : DataW.trod enc Tryz.prog w base sp held n 54 [c4, c5, c6, c7, c8] = some y4 := t4
  obtain ⟨nm, e0, -, hnm⟩ := DataW.trod_string Tryz.underlying9 u0
  obtain ⟨pb, e1, -⟩ := DataW.trod_bool Tryz.underlying4 u1
  obtain ⟨aa, ca, args, e2, hl2, hargs⟩ := open_args u2
  obtain ⟨ty, e3, -, -⟩ := DataW.trod_int Tryz.underlying3 u3
  obtain ⟨bd, d0, d1, d2, d3, d4, e4, hE⟩ := open_expr n _ _ u4
  simp only [List.cons.injEq, and_true] at e0 e1 e2 e3 e4
  obtain ⟨rfl, rfl, rfl, rfl, rfl⟩ := e4
  subst e0 e1 e2 e3
  exact ⟨⟨nm, pb, args, ty, bd⟩, _, _, _, _, _, _, _, _, _, rfl, aa, ca, _, _, _, _, _, rfl, ⟨hnm, hl2⟩, hargs, IsE.upTo (by omega) _ _ hE⟩
theorem IsFun.upTo {w : World} {lo n : Nat} {h h' : Nat} (hh : h ≤ h') (v : Value) (e : TF) (hE : IsFun w lo n h v e) : IsFun w lo n h' v e := by
  obtain ⟨aa, ca, b0, b1, b2, b3, b4, hv, hz, ha, hE⟩ := hE
  exact ⟨aa, ca, b0, b1, b2, b3, b4, hv, hz, ha, IsE.upTo hh _ _ hE⟩
theorem open_funs {fuel : Nat} {cs : List Value} {x : DataW H × List MemPlace} (h : DataW.trod enc Tryz.prog w base sp held fuel 47 cs = some x) : ∃ (a : Option Addr) (cap : Nat) (l : List TF), cs = [.slice a l.length cap] ∧ l.length ≤ maxLen ∧ IsFuns (IsFun w 0 w.heap.size fuel) w 0 w.heap.size a l := by
  obtain ⟨a, cap, l, e, hl, hr⟩ := open_row Tryz.underlying47 cellsFun (by omega) h (fun n' cs (e : TF) => ∃ c0 c1 c2 c3 c4 c5 c6 c7 c8 : Value, cs = [c0, c1, c2, c3, c4, c5, c6, c7, c8] ∧ IsFun w 0 w.heap.size n' (.agg #[c0, c1, c2, c3, c4, c5, c6, c7, c8]) e) (fun n' _ cs x hx => open_fun hx)
  refine ⟨a, cap, l, e, hl.1, ?_⟩
  rcases hr with h | ⟨b, off, n', hn, ha, hb, hj⟩
  · exact .inl h
  · refine .inr ⟨b, off, ha, Nat.zero_le _, hb, fun j hjl => ?_⟩
    obtain ⟨cs, _, hc, c0, c1, c2, c3, c4, c5, c6, c7, c8, rfl, hE⟩ := hj j hjl
    exact ⟨c0, c1, c2, c3, c4, c5, c6, c7, c8, hc 0 (by omega), hc 1 (by omega), hc 2 (by omega), hc 3 (by omega), hc 4 (by omega), hc 5 (by omega), hc 6 (by omega), hc 7 (by omega), hc 8 (by omega), IsFun.upTo (by omega) _ _ hE⟩
set_option maxRecDepth 100000 in
theorem open_mod {fuel : Nat} {cs : List Value} {x : DataW H × List MemPlace} (h : DataW.trod enc Tryz.prog w base sp held fuel 50 cs = some x) : ∃ (e : TM) (c0 c1 c2 : Value), cs = [c0, c1, c2] ∧ IsMod w 0 w.heap.size fuel (.agg #[c0, c1, c2]) e := by
  obtain ⟨xs, n, rfl, rfl, hl, hlen, hf⟩ := DataW.trod_struct Tryz.underlying50 h
  rw [cellsMod] at hl
  match cs, hl with
  | [c0, c1, c2], _ =>
  match xs, hlen with
  | [y0, y1, y2], _ =>
  have t0 : DataW.trod enc Tryz.prog w base sp held n 23 ((([c0, c1, c2] : List Value).drop 0).take (Tryz.prog.cellsOf 23)) = some y0 := hf 0 { name := "Uses", type := 23, offset := 0, embedded := false, tag := "", pkgPath := "", byteOffset := 0 } rfl
  have t1 : DataW.trod enc Tryz.prog w base sp held n 47 ((([c0, c1, c2] : List Value).drop 1).take (Tryz.prog.cellsOf 47)) = some y1 := hf 1 { name := "Funs", type := 47, offset := 1, embedded := false, tag := "", pkgPath := "", byteOffset := 24 } rfl
  have t2 : DataW.trod enc Tryz.prog w base sp held n 48 ((([c0, c1, c2] : List Value).drop 2).take (Tryz.prog.cellsOf 48)) = some y2 := hf 2 { name := "Main", type := 48, offset := 2, embedded := false, tag := "", pkgPath := "", byteOffset := 48 } rfl
  rw [cellsWds] at t0
  rw [cellsFuns] at t1
  rw [cells24] at t2
  have u0 : DataW.trod enc Tryz.prog w base sp held n 23 [c0] = some y0 := t0
  have u1 : DataW.trod enc Tryz.prog w base sp held n 47 [c1] = some y1 := t1
  have u2 : DataW.trod enc Tryz.prog w base sp held n 48 [c2] = some y2 := t2
  obtain ⟨a1, k1, us, e1, z1, z4, z5, q1⟩ := open_wds u0
  obtain ⟨a2, k2, fs, e2, z2, q2⟩ := open_funs u1
  obtain ⟨a3, k3, mn, e3, z3, q3⟩ := open_kids u2
  simp only [List.cons.injEq, and_true] at e1 e2 e3
  subst e1 e2 e3
  exact ⟨⟨us, fs, mn⟩, _, _, _, rfl, a1, a2, a3, k1, k2, k3, rfl, ⟨z1, z2, z3, z4, z5⟩, q1, q2.mono (fun v e he => IsFun.upTo (by omega) v e he) (fun _ _ _ => rfl) (Nat.le_refl _) (Nat.le_refl _), q3.mono (fun v e he => IsE.upTo (by omega) v e he) (fun _ _ _ => rfl) (Nat.le_refl _) (Nat.le_refl _)⟩
end Go.Proofs.YtgmohnbjfemebaaGreatDoor
