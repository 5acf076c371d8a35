/- Rows of variables that appending makes, once more. Conditions: all can be read. -/
import Derived.Test.YtffabnmgcicpiaaGreatG11
namespace Go.Proofs.YtffabnmgcicpiaaGreat
open Go.RowKit Go.PlainAid

theorem gr_reflY (w : World) (row : Option Nat) : w.grownBy w row := ⟨rfl, rfl, rfl, Nat.le_refl _, fun _ _ _ => rfl⟩
def cellsAY (x : TA) : List Value := [.string x.name, .int .i64 x.type]
def flatAY (l : List TA) : List Value := l.flatMap cellsAY
theorem flatA_lenY (l : List TA) : (flatAY l).length = l.length * 2 := by
  induction l with
  | nil => rfl
  | cons x t ih => unfold flatAY at ih ⊢; rw [List.flatMap_cons, List.length_append, ih]; simp [cellsAY]; omega
theorem flatA_appendY (l r : List TA) : flatAY (l ++ r) = flatAY l ++ flatAY r := by unfold flatAY; rw [List.flatMap_append]
theorem flatA_atY (l : List TA) (j : Nat) (hj : j < l.length) : (flatAY l)[j * 2]? = some (.string l[j].name) ∧ (flatAY l)[j * 2 + 1]? = some (.int .i64 l[j].type) := by
  have h : flatAY l = flatAY (l.take j) ++ (cellsAY l[j] ++ flatAY (l.drop (j + 1))) := by
    conv => lhs; rw [← List.take_append_drop j l, List.drop_eq_getElem_cons hj, flatA_appendY]
    rfl
  have hl : (flatAY (l.take j)).length = j * 2 := by rw [flatA_lenY, List.length_take]; omega
  rw [h]
  exact ⟨by rw [List.getElem?_append_right (by omega), hl, Nat.sub_self]; rfl, by rw [List.getElem?_append_right (by omega), hl, Nat.add_sub_cancel_left]; rfl⟩
theorem flatA_oneY (l : List TA) : ∀ u ∈ flatAY l, u.oneCell' = true := fun u hu => by
  unfold flatAY at hu
  obtain ⟨p, _, hu⟩ := List.mem_flatMap.1 hu
  unfold cellsAY at hu
  simp only [List.mem_cons, List.not_mem_nil, or_false] at hu
  rcases hu with rfl | rfl <;> rfl
/-- A row that appending made can be read. -/
theorem args_rowY {W : World} {base k : Nat} {v : Value} {l : List TA} (h : W.ownsRow base 75 2 v k (flatAY l)) (hk : k = l.length) (hs : ∀ x ∈ l, x.name.size ≤ maxLen) : ∃ (a : Option Addr) (cap : Nat), v = .slice a l.length cap ∧ IsArgs (IsArg W base W.heap.size) W base W.heap.size a l := by
  have hh := h
  rcases h.2 with ⟨h1, h2⟩ | ⟨g, cap, cur, h1, _⟩
  · refine ⟨none, 0, by rw [h1, ← hk, h2], .inl (List.length_eq_zero_iff.1 (by omega))⟩
  · subst h1
    refine ⟨some ⟨g, 0, none⟩, cap, by rw [hk], .inr ⟨g, 0, rfl, (hh.lt g rfl).1, (hh.lt g rfl).2, fun j hj => ?_⟩⟩
    have e := flatA_atY l j hj
    have c0 := hh.cells (g := g) rfl _ _ e.1
    have c1 := hh.cells (g := g) rfl _ _ e.2
    rw [Addr.add_lit, Nat.zero_add] at c0 c1
    exact ⟨_, _, by rw [Nat.zero_add]; exact c0, by rw [Nat.zero_add]; exact c1, rfl, hs _ (List.getElem_mem hj)⟩
theorem names_ofY {W : World} {lo n : Nat} {a : Option Addr} {l : List TA} (h : IsArgs (IsArg W lo n) W lo n a l) : ∀ x ∈ l, x.name.size ≤ maxLen := fun x hx => by
  rcases h with rfl | ⟨b, off, _, _, _, hcs⟩
  · cases hx
  · obtain ⟨j, hj, rfl⟩ := List.getElem_of_mem hx
    obtain ⟨c0, c1, _, _, hr⟩ := hcs j hj
    exact hr.2
theorem app0AY (b : Nat) (aa : Option Addr) (ca : Nat) (W : World) : (Builtin.append_ #[29, 29] 29 #[.slice (some ⟨b, 0, none⟩) 0 0, .slice aa 0 ca]).run Tryz.prog W = .ok (.slice (some ⟨b, 0, none⟩) 0 0) W := by
  obtain ⟨i0, hi, hz0, hz1, hz2⟩ := info_parts infoArg
  have hs : Go.Src Tryz.prog i0.size 29 (.slice aa 0 ca) 0 [] W := by
    cases aa with
    | none => exact Go.Src.ofNil W Tryz.underlying29 ca
    | some ad => exact Go.Src.ofSlice W Tryz.underlying29 ad 0 ca [] (by simp) (fun j u hu => by simp at hu) (fun u hu => by cases hu)
  have := run_append_room_src (P := Tryz.prog) W 29 29 29 75 i0 Tryz.underlying29 hi b 0 0 0 (.slice aa 0 ca) 0 [] hs (by omega) (fun j hj => by simp at hj) (fun j hj => by simp at hj)
  simpa [World.setCells] using this
theorem app_varsY (X : World) (n0 B lo n : Nat) (a : Option Addr) (cap : Nat) (vars : List TA) (hown : X.ownsRow n0 75 2 (.slice (some ⟨B, 0, none⟩) 0 0) 0 []) (hV : IsArgs (IsArg X lo n) X lo n a vars) (hl : vars.length ≤ 1100000) (hbase : n0 ≤ X.heap.size) :
    ∃ v Y, (Builtin.append_ #[29, 29] 29 #[.slice (some ⟨B, 0, none⟩) 0 0, .slice a vars.length cap]).run Tryz.prog X = .ok v Y ∧ Y.ownsRow n0 75 2 v vars.length (flatAY vars) ∧ X.grownBy Y (some B) := by
  obtain ⟨i0, hi, hz0, hz1, hz2⟩ := info_parts infoArg
  rcases hV with rfl | ⟨b, off, rfl, _, _, hcs⟩
  · exact ⟨_, _, app0AY B a cap X, hown, gr_reflY _ _⟩
  · obtain ⟨v, Y, h1, h2, h3, _⟩ := run_append_own (P := Tryz.prog) X n0 29 29 75 i0 (.agg #[.string ⟨#[]⟩, .int .i64 0]) 2 24 Tryz.underlying29 hi hz0 hz1 hz2 rfl (by decide) (.slice (some ⟨B, 0, none⟩) 0 0) 0 [] hown ⟨b, off, none⟩ vars.length cap (flatAY vars) (flatA_lenY vars) (fun j u hu => by
        have hj : j < vars.length * 2 := by
          rcases Nat.lt_or_ge j (vars.length * 2) with g | g
          · exact g
          · rw [List.getElem?_eq_none (by rw [flatA_lenY]; exact g)] at hu; cases hu
        have hj2 : j / 2 < vars.length := by omega
        obtain ⟨c0, c1, d0, d1, hr⟩ := hcs (j / 2) hj2
        have hv := hr.1
        simp only [Value.agg.injEq, Array.mk.injEq, List.cons.injEq, and_true] at hv
        obtain ⟨rfl, rfl⟩ := hv
        have e := flatA_atY vars (j / 2) hj2
        rw [Addr.add_lit]
        rcases Nat.mod_two_eq_zero_or_one j with m0 | m0
        · have ej : j / 2 * 2 = j := by omega
          rw [ej] at e d0
          rw [e.1] at hu
          cases hu
          exact d0
        · have ej : j / 2 * 2 + 1 = j := by omega
          have ej2 : off + j / 2 * 2 + 1 = off + j := by omega
          rw [ej] at e
          rw [ej2] at d1
          rw [e.2] at hu
          cases hu
          exact d1) (flatA_oneY vars) (by unfold maxLen; omega) (by omega) hbase
    rw [Nat.zero_add, List.nil_append] at h2
    exact ⟨v, Y, h1, h2, h3⟩
theorem app_oneY (X : World) (n0 k D : Nat) (v : Value) (l : List TA) (nm : ByteArray) (t : Int) (hown : X.ownsRow n0 75 2 v k (flatAY l)) (hD : X.cell? ⟨D, 0, none⟩ = some (.string nm) ∧ X.cell? ⟨D, 1, none⟩ = some (.int .i64 t)) (hl : k ≤ 1100000) (hbase : n0 ≤ X.heap.size) :
    ∃ z Z, (Builtin.append_ #[29, 29] 29 #[v, .slice (some ⟨D, 0, none⟩) 1 1]).run Tryz.prog X = .ok z Z ∧ Z.ownsRow n0 75 2 z (k + 1) (flatAY (l ++ [⟨nm, t⟩])) ∧ Below n0 X Z := by
  obtain ⟨i0, hi, hz0, hz1, hz2⟩ := info_parts infoArg
  obtain ⟨z, Z, h1, h2, h3, _⟩ := run_append_own (P := Tryz.prog) X n0 29 29 75 i0 (.agg #[.string ⟨#[]⟩, .int .i64 0]) 2 24 Tryz.underlying29 hi hz0 hz1 hz2 rfl (by decide) v k (flatAY l) hown ⟨D, 0, none⟩ 1 1 [.string nm, .int .i64 t] rfl (fun j u hu => by
      rw [Addr.add_lit, Nat.zero_add]
      match j, hu with
      | 0, hu => cases hu; exact hD.1
      | 1, hu => cases hu; exact hD.2
      | j + 2, hu => simp at hu) (by simp [Value.oneCell']) (by unfold maxLen; omega) (by omega) hbase
  exact ⟨z, Z, h1, by rw [flatA_appendY]; exact h2, (Below.refl _ _).grown h3 hbase (fun q hq => (hown.lt q hq).1)⟩
end Go.Proofs.YtffabnmgcicpiaaGreat
