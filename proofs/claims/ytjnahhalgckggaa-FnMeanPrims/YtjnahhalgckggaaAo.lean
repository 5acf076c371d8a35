/- Primitives as function values, and the map of them. Conditions: the values can be read. -/
import Derived.Test.YtjnahhalgckggaaAn
import Derived.Maps.OwnSet
import Derived.Carry
namespace Go.Proofs.Ytjnahhalgckggaa
open Go.RowKit Go.PlainAid

/-- A function as a value. -/
abbrev FV (f : Nat) : Value := .func (.func f) #[] #[]
/-- A function value that does what a primitive does. -/
def Acts (w : World) (v : Value) (n : Nat) : Prop :=
  (∃ f : Nat, v = FV f ∧ (∀ (x0 : Value) (W : World), (callFunc f #[x0]).run Try.prog W = .ok (.enter f #[x0]) W) ∧
    ∀ (W : World) (lo : Nat) (a : Option Addr) (cap : Nat) (xs : List MV), Below w.heap.size w W → Mvs W lo a xs → fitB n xs = true → Calls Try.prog f #[.slice a xs.length cap] W fun e w' => PPost (primR n xs) W e w') ∨
  (∃ (f : Nat) (p : Value), v = .func (.func f) #[] #[p] ∧ (∀ (x0 x1 : Value) (W : World), (callFunc f #[x0, x1]).run Try.prog W = .ok (.enter f #[x0, x1]) W) ∧
    ∀ (W : World) (lo : Nat) (a : Option Addr) (cap : Nat) (xs : List MV), Below w.heap.size w W → Mvs W lo a xs → fitB n xs = true → Calls Try.prog f #[.slice a xs.length cap, p] W fun e w' => PPost (primR n xs) W e w')
theorem Acts.kept {w w' : World} {v : Value} {n : Nat} (h : Acts w v n) (hb : Below w.heap.size w w') : Acts w' v n := by
  rcases h with ⟨f, h1, h2, h3⟩ | ⟨f, p, h1, h2, h3⟩
  · exact .inl ⟨f, h1, h2, fun W lo a cap xs hw => h3 W lo a cap xs (hb.trans (hw.mono hb.size))⟩
  · exact .inr ⟨f, p, h1, h2, fun W lo a cap xs hw => h3 W lo a cap xs (hb.trans (hw.mono hb.size))⟩
theorem fit_two {n : Nat} {xs : List MV} (h : fitB n xs = true) (h2 : (tpArgs n).length = 2) : ∃ x y, xs = [x, y] := len_two ((fit_len h).2.trans h2)
theorem fit_one {n : Nat} {xs : List MV} (h : fitB n xs = true) (h2 : (tpArgs n).length = 1) : ∃ x, xs = [x] := len_one ((fit_len h).2.trans h2)
theorem fit_three {n : Nat} {xs : List MV} (h : fitB n xs = true) (h2 : (tpArgs n).length = 3) : ∃ x y z, xs = [x, y, z] := len_three ((fit_len h).2.trans h2)
theorem acts_number (f n : Nat) (op : Int → Int → Int) (hf : ∀ x y W, Calls Try.prog f #[.int .i64 x, .int .i64 y] W fun e w' => e = .returned (.int .i64 (op x y)) ∧ Below W.heap.size W w') (hcf : ∀ (x0 x1 : Value) (W : World), (callFunc f #[x0, x1]).run Try.prog W = .ok (.enter f #[x0, x1]) W)
    (hR : ∀ x y : MV, primR n [x, y] = (⟨1, op x.num y.num, []⟩, 0)) (h2 : (tpArgs n).length = 2) (w : World) (B : Nat) (hBn : B < w.heap.size) (hB : w.cell? ⟨B, 0, none⟩ = some (FV f)) : Acts w (.func (.func 63) #[] #[.pointer (some ⟨B, 0, none⟩)]) n := by
  refine .inr ⟨_, _, rfl, fun _ _ _ => by kernel_rfl, fun W lo a cap xs hw hm hfit => ?_⟩
  obtain ⟨x, y, rfl⟩ := fit_two hfit h2
  obtain ⟨b, off, rfl, hb, hx, hy⟩ := hm.two
  rw [hR]
  exact number_any f op x y (hf _ _) hcf lo B b off cap W ((hw.cell (p := ⟨B, 0, none⟩) hBn).trans hB) (Nat.lt_of_lt_of_le hBn hw.size) hx hy hb
theorem acts_truth (f n : Nat) (op : Int → Int → Bool) (hf : ∀ x y W, Calls Try.prog f #[.int .i64 x, .int .i64 y] W fun e w' => e = .returned (.bool (op x y)) ∧ Below W.heap.size W w') (hcf : ∀ (x0 x1 : Value) (W : World), (callFunc f #[x0, x1]).run Try.prog W = .ok (.enter f #[x0, x1]) W)
    (hR : ∀ x y : MV, primR n [x, y] = (⟨2, boolI (op x.num y.num), []⟩, 0)) (h2 : (tpArgs n).length = 2) (w : World) (B : Nat) (hBn : B < w.heap.size) (hB : w.cell? ⟨B, 0, none⟩ = some (FV f)) : Acts w (.func (.func 65) #[] #[.pointer (some ⟨B, 0, none⟩)]) n := by
  refine .inr ⟨_, _, rfl, fun _ _ _ => by kernel_rfl, fun W lo a cap xs hw hm hfit => ?_⟩
  obtain ⟨x, y, rfl⟩ := fit_two hfit h2
  obtain ⟨b, off, rfl, hb, hx, hy⟩ := hm.two
  rw [hR]
  exact truth_any f op x y (hf _ _) hcf lo B b off cap W ((hw.cell (p := ⟨B, 0, none⟩) hBn).trans hB) (Nat.lt_of_lt_of_le hBn hw.size) hx hy hb
theorem acts_division (f n : Nat) (op : Int → Int → Int) (hf : ∀ x y W, y ≠ 0 → Calls Try.prog f #[.int .i64 x, .int .i64 y] W fun e w' => e = .returned (.int .i64 (op x y)) ∧ Below W.heap.size W w') (hcf : ∀ (x0 x1 : Value) (W : World), (callFunc f #[x0, x1]).run Try.prog W = .ok (.enter f #[x0, x1]) W)
    (hR : ∀ x y : MV, primR n [x, y] = if y.num = 0 then (⟨0, 0, []⟩, 1) else (⟨1, op x.num y.num, []⟩, 0)) (h2 : (tpArgs n).length = 2) (w : World) (B B2 : Nat) (hBn : B < w.heap.size) (hB : w.cell? ⟨B, 0, none⟩ = some (FV f)) (hBn2 : B2 < w.heap.size) (hB2 : w.cell? ⟨B2, 0, none⟩ = some (.func (.func 63) #[] #[.pointer (some ⟨B, 0, none⟩)])) : Acts w (.func (.func 64) #[] #[.pointer (some ⟨B2, 0, none⟩)]) n := by
  refine .inr ⟨_, _, rfl, fun _ _ _ => by kernel_rfl, fun W lo a cap xs hw hm hfit => ?_⟩
  obtain ⟨x, y, rfl⟩ := fit_two hfit h2
  obtain ⟨b, off, rfl, hb, hx, hy⟩ := hm.two
  rw [hR]
  exact division_any f op x y (fun h W => hf _ _ W h) hcf lo B2 B b off cap W ((hw.cell (p := ⟨B2, 0, none⟩) hBn2).trans hB2) (Nat.lt_of_lt_of_le hBn2 hw.size) ((hw.cell (p := ⟨B, 0, none⟩) hBn).trans hB) (Nat.lt_of_lt_of_le hBn hw.size) hx hy hb
theorem acts_9 (w : World) : Acts w (FV 52) 9 := by
  refine .inl ⟨_, rfl, fun _ _ => by kernel_rfl, fun W lo a cap xs hw hm hfit => ?_⟩
  obtain ⟨x, rfl⟩ := fit_one hfit rfl
  obtain ⟨b, off, rfl, hb, hx⟩ := hm.one
  exact lit11_any lo b off cap x W hx hb
theorem acts_11 (w : World) : Acts w (FV 54) 11 := by
  refine .inl ⟨_, rfl, fun _ _ => by kernel_rfl, fun W lo a cap xs hw hm hfit => ?_⟩
  obtain ⟨x, rfl⟩ := fit_one hfit rfl
  obtain ⟨b, off, rfl, hb, hx⟩ := hm.one
  exact lit12_any lo b off cap x W hx hb
theorem acts_14 (w : World) : Acts w (FV 56) 14 := by
  refine .inl ⟨_, rfl, fun _ _ => by kernel_rfl, fun W lo a cap xs hw hm hfit => ?_⟩
  obtain ⟨x, rfl⟩ := fit_one hfit rfl
  obtain ⟨b, off, rfl, hb, hx⟩ := hm.one
  exact lit13_any lo b off cap x W hx hb
theorem acts_10 (w : World) : Acts w (FV 57) 10 := by
  refine .inl ⟨_, rfl, fun _ _ => by kernel_rfl, fun W lo a cap xs hw hm hfit => ?_⟩
  obtain ⟨x, y, rfl⟩ := fit_two hfit rfl
  obtain ⟨b, off, rfl, hb, hx, hy⟩ := hm.two
  exact meanAt_any lo b off cap x y W hx hy hb
theorem acts_12 (w : World) : Acts w (FV 58) 12 := by
  refine .inl ⟨_, rfl, fun _ _ => by kernel_rfl, fun W lo a cap xs hw hm hfit => ?_⟩
  obtain ⟨x, y, z, rfl⟩ := fit_three hfit rfl
  obtain ⟨b, off, rfl, hb, hx, hy, hz⟩ := hm.three
  exact meanPut_any lo b off cap x y z W hx hy hz hb
theorem acts_13 (w : World) : Acts w (FV 59) 13 := by
  refine .inl ⟨_, rfl, fun _ _ => by kernel_rfl, fun W lo a cap xs hw hm hfit => ?_⟩
  obtain ⟨x, y, rfl⟩ := fit_two hfit rfl
  obtain ⟨b, off, rfl, hb, hx, hy⟩ := hm.two
  exact meanJoin_any lo b off cap x y W hx hy hb
def RHf (v : Value) : Option (DataW Value × List MemPlace) := some (.held v, [])
/-- A map of function values by words. -/
def PM (w : World) (b : Nat) (L : List (List UInt8 × Value)) : Prop := ∃ D : DataW Value, w.ownsMap Try.prog 9 RHf b L.length D ∧ ∀ l, D.atKey (.string l) (.held .nilFunc) = .held ((L.lookup l).getD .nilFunc) ∧ Maps.has D (.string l) = (L.lookup l).isSome
theorem PM.made (w : World) : PM (w.alloc (.map #[] 0)) w.heap.size [] := ⟨.map [], World.ownsMap_made w Try.prog 9 RHf, fun _ => ⟨rfl, rfl⟩⟩
theorem PM.block {w w' : World} {b : Nat} {L : List (List UInt8 × Value)} (h : PM w b L) (hb : w'.heap[b]? = w.heap[b]?) : PM w' b L := by
  obtain ⟨D, ⟨es, clock, h1, h2⟩, h3⟩ := h
  exact ⟨D, ⟨es, clock, hb.trans h1, h2⟩, h3⟩
theorem PM.lt {w : World} {b : Nat} {L : List (List UInt8 × Value)} (h : PM w b L) : b < w.heap.size := by
  obtain ⟨D, ⟨es, clock, h1, h2⟩, h3⟩ := h
  rcases Nat.lt_or_ge b w.heap.size with g | g
  · exact g
  · rw [Array.getElem?_eq_none g] at h1; cases h1
theorem keyS (s : ByteArray) (h : s.size ≤ maxLen) : keyOf Try.prog 9 (.string s) = some (.string s.toList) := by rw [ByteArray.toList_eq]; exact WideMaps.keyOf_string_mk Try.underlying9 h
theorem PM.look {w : World} {b : Nat} {L : List (List UInt8 × Value)} (h : PM w b L) (s : ByteArray) (hs : s.size ≤ maxLen) : (Instr.lookup 54 (.map (some b)) (.string s) true).run Try.prog w = .ok (.tuple #[(L.lookup s.toList).getD .nilFunc, .bool (L.lookup s.toList).isSome]) w := by
  obtain ⟨D, hown, hD⟩ := h
  obtain ⟨v, ps, hrun, hv⟩ := hown.look_ok (Maps.string_keyed Try.underlying9) Try.underlying54 (Try.zeroValue68 w) (zd := .held (.nilFunc)) (zp := []) rfl (keyS s hs)
  rw [(hD _).1] at hv
  unfold RHf at hv
  simp only [Option.some.injEq, Prod.mk.injEq, DataW.held.injEq] at hv
  rw [hrun, hv.1, (hD _).2]
theorem PM.put {w : World} {b : Nat} {L : List (List UInt8 × Value)} (h : PM w b L) (hn : L.length < 100) (s : ByteArray) (hs : s.size ≤ maxLen) (v : Value) : ∃ w', (Instr.mapUpdate 54 (.map (some b)) (.string s) v).run Try.prog w = .ok () w' ∧ PM w' b ((s.toList, v) :: L) ∧ w.grownBy w' (some b) ∧ w'.heap.size = w.heap.size := by
  obtain ⟨D, hown, hD⟩ := h
  obtain ⟨w', h1, h2, h3⟩ := hown.store (Maps.string_keyed Try.underlying9) Try.underlying54 (by unfold maxLen; omega) (key := .string s) (val := v) (d := .held v) (ps := []) (keyS s hs) rfl
  refine ⟨w', h1, ⟨_, h2, fun l => ?_⟩, h3.grown, ?_⟩
  · by_cases e : l = s.toList
    · subst e
      rw [Maps.atKey_put_same hown.isMap (show WideAt.IsKeyLit (.string s.toList) from trivial), Maps.has_put_same hown.isMap (show WideAt.IsKeyLit (.string s.toList) from trivial)]
      simp [List.lookup]
    · have hne : (Lit.string l) ≠ .string s.toList := fun c => e (by injection c)
      rw [Maps.atKey_put_other hne, Maps.has_put_other hne, (hD l).1, (hD l).2]
      have : (l == s.toList) = false := by simpa using e
      simp [List.lookup, this]
  · obtain ⟨_, _, _, _, _, rfl⟩ := h3
    simp [ChangeMaps.setBlock]
/-- How far the map has been made: it, and the cells that function values have. -/
structure St (w : World) (M : Nat) (L : List (List UInt8 × Value)) (F : List (Nat × Value)) (W : World) : Prop where
  bel : Below w.heap.size w W
  low : w.heap.size ≤ M
  pm : PM W M L
  cs : ∀ p ∈ F, M < p.1 ∧ p.1 < W.heap.size ∧ W.cell? ⟨p.1, 0, none⟩ = some p.2
theorem St.call {w W W' : World} {M : Nat} {L : List (List UInt8 × Value)} {F : List (Nat × Value)} (h : St w M L F W) (hb : Below W.heap.size W W') (G : List (Nat × Value)) (hG : ∀ p ∈ G, W.heap.size ≤ p.1 ∧ p.1 < W'.heap.size ∧ W'.cell? ⟨p.1, 0, none⟩ = some p.2) : St w M L (G ++ F) W' := by
  refine ⟨h.bel.trans (hb.mono h.bel.size), h.low, h.pm.block (hb.block M h.pm.lt), fun p hp => ?_⟩
  rcases List.mem_append.1 hp with hp | hp
  · obtain ⟨h1, h2, h3⟩ := hG p hp
    exact ⟨Nat.lt_of_lt_of_le h.pm.lt h1, h2, h3⟩
  · obtain ⟨h1, h2, h3⟩ := h.cs p hp
    exact ⟨h1, Nat.lt_of_lt_of_le h2 hb.size, (hb.cell (p := ⟨p.1, 0, none⟩) h2).trans h3⟩
theorem St.put {w W : World} {M : Nat} {L : List (List UInt8 × Value)} {F : List (Nat × Value)} (h : St w M L F W) (hn : L.length < 100) (s : ByteArray) (hs : s.size ≤ maxLen) (v : Value) : ∃ W', (Instr.mapUpdate 54 (.map (some M)) (.string s) v).run Try.prog W = .ok () W' ∧ St w M ((s.toList, v) :: L) F W' := by
  obtain ⟨W', h1, h2, h3, h4⟩ := h.pm.put hn s hs v
  refine ⟨W', h1, ⟨h.bel.trans ((Below.refl _ _).grown h3 h.bel.size (fun q hq => by cases hq; exact h.low)), h.low, h2, fun p hp => ?_⟩⟩
  obtain ⟨g1, g2, g3⟩ := h.cs p hp
  exact ⟨g1, by omega, (h3.cell_far ⟨p.1, 0, none⟩ g2 (fun e => by have e2 := Option.some.inj e; dsimp only at e2; omega)).trans g3⟩
end Go.Proofs.Ytjnahhalgckggaa
