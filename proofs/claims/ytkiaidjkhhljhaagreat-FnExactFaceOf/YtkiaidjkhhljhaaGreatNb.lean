/- The walk of spec.l4Sig: a line in new memory. Conditions: the line can be read. And: The walk of spec.l4Sig: a line in new memory. Conditions: the line can be read. -/
import Derived.Test.YtkiaidjkhhljhaaGreatHa
import Derived.Test.YtkiaidjkhhljhaaGreatFe
import Derived.Laws.AppendOwn
import Derived.Deep.AppendSrc
namespace Go.Proofs.YtkiaidjkhhljhaaGreat
open Go.RowKit Go.PlainAid

theorem own_of_row {w : World} {lo : Nat} {v : Value} {k : Nat} {zs : List Int} (h : w.ownsRow lo 3 1 v k (zs.map (Value.int .i64))) : OwnI w lo w.heap.size v zs := by
  obtain ⟨hl, h⟩ := h
  have hk : k = zs.length := by simpa using hl.symm
  subst hk
  rcases h with ⟨rfl, h0⟩ | ⟨g, cap, cur, rfl, hb, hg, hc, hm, hs, ht⟩
  · refine ⟨none, 0, by rw [h0], .inl (List.length_eq_zero_iff.1 h0)⟩
  · refine ⟨some ⟨g, 0, none⟩, cap, rfl, .inr ⟨g, rfl, hb, ?_, fun j hj => ?_, fun j => ?_⟩⟩
    · rcases Nat.lt_or_ge g w.heap.size with h | h
      · exact h
      · rw [Array.getElem?_eq_none h] at hg; cases hg
    · have : cur.toList[j]? = some (.int .i64 zs[j]) := by
        have e : (cur.toList.take (zs.length * 1))[j]? = some (.int .i64 zs[j]) := by rw [ht]; simp [hj]
        rwa [List.getElem?_take_of_lt (by omega)] at e
      rw [World.cell?]
      simp [hg, ← Array.getElem?_toList, this]
    · simp [World.frozen?, hg]

theorem app0 (b : Nat) (aa : Option Addr) (ca : Nat) (W : World) : (Builtin.append_ #[63, 63] 63 #[.slice (some ⟨b, 0, none⟩) 0 0, .slice aa 0 ca]).run Tryz.prog W = .ok (.slice (some ⟨b, 0, none⟩) 0 0) W := by
  obtain ⟨i0, hi, hz0, hz1, hz2⟩ := info_parts intinfo
  have hs : Src Tryz.prog i0.size 63 (.slice aa 0 ca) 0 [] W := by
    cases aa with
    | none => exact Src.ofNil W Tryz.underlying63 ca
    | some ad => exact Src.ofSlice W Tryz.underlying63 ad 0 ca [] (by simp) (fun j u hu => by simp at hu) (fun u hu => by cases hu)
  have := run_append_room_src (P := Tryz.prog) W 63 63 63 3 i0 Tryz.underlying63 hi b 0 0 0 (.slice aa 0 ca) 0 [] hs (by omega) (fun j hj => by simp at hj) (fun j hj => by simp at hj)
  simpa [World.setCells] using this
theorem appN (aa : Option Addr) (ca : Nat) (W : World) : (Builtin.append_ #[63, 63] 63 #[.slice none 0 0, .slice aa 0 ca]).run Tryz.prog W = .ok (.slice none 0 0) W := by
  obtain ⟨i0, hi, hz0, hz1, hz2⟩ := info_parts intinfo
  have hs : Src Tryz.prog i0.size 63 (.slice aa 0 ca) 0 [] W := by
    cases aa with
    | none => exact Src.ofNil W Tryz.underlying63 ca
    | some ad => exact Src.ofSlice W Tryz.underlying63 ad 0 ca [] (by simp) (fun j u hu => by simp at hu) (fun u hu => by cases hu)
  simp [Builtin.append_, run_underlying Tryz.underlying63, sizeOf, typeInfo, hi, hs.len, hs.cells]
theorem run_app_ints (W : World) (base : Option Addr) (hb : base = none ∨ ∃ B : Nat, base = some ⟨B, 0, none⟩) (aa : Option Addr) (ca : Nat) (zs : List Int) (lo n : Nat) (hI : IsInts W lo n aa zs) (hl : zs.length ≤ 1048576) :
    ∃ v' W', (Builtin.append_ #[63, 63] 63 #[.slice base 0 0, .slice aa zs.length ca]).run Tryz.prog W = .ok v' W' ∧ OwnI W' W.heap.size W'.heap.size v' zs ∧ Below W.heap.size W W' := by
  obtain ⟨i0, hi, hz0, hz1, hz2⟩ := info_parts intinfo
  rcases hI with rfl | ⟨b, off, rfl, hbl, hbn, hcs⟩
  · rcases hb with rfl | ⟨B, rfl⟩
    · exact ⟨_, _, appN aa ca W, ⟨none, 0, rfl, .inl rfl⟩, Below.refl _ _⟩
    · exact ⟨_, _, app0 B aa ca W, ⟨_, 0, rfl, .inl rfl⟩, Below.refl _ _⟩
  · by_cases h0 : zs = []
    · subst h0
      rcases hb with rfl | ⟨B, rfl⟩
      · exact ⟨_, _, appN _ ca W, ⟨none, 0, rfl, .inl rfl⟩, Below.refl _ _⟩
      · exact ⟨_, _, app0 B _ ca W, ⟨_, 0, rfl, .inl rfl⟩, Below.refl _ _⟩
    have hpos : 0 < zs.length := List.length_pos_iff.2 h0
    have hs : Src Tryz.prog i0.size 63 (.slice (some ⟨b, off, none⟩) zs.length ca) zs.length (zs.map (Value.int .i64)) W :=
      Src.ofSlice W Tryz.underlying63 ⟨b, off, none⟩ zs.length ca (zs.map (Value.int .i64)) (by rw [hz1]; simp) (fun j u hu => by
        rw [Addr.add_lit]
        rw [List.getElem?_map] at hu
        rcases Nat.lt_or_ge j zs.length with hj | hj
        · rw [List.getElem?_eq_getElem hj] at hu
          cases hu
          exact hcs j hj
        · rw [List.getElem?_eq_none hj] at hu; cases hu) (fun u hu => by
        obtain ⟨z, _, rfl⟩ := List.mem_map.1 hu
        rfl)
    have hold : (Builtin.firstCells i0.size 0 (.slice base 0 0)).run Tryz.prog W.drew = .ok ([] : List Value).toArray W.drew := by
      rcases hb with rfl | ⟨B, rfl⟩
      · exact run_firstCells_none _ _ _ _ _
      · exact run_firstCells_some _ _ _ _ _ _ [] (by simp) (fun j v hv => by simp at hv)
    have hr := run_append_grow_src (P := Tryz.prog) W 63 63 63 3 i0 (.int .i64 0) Tryz.underlying63 hi hz0 base 0 0 [] hold (.slice (some ⟨b, off, none⟩) zs.length ca) zs.length (zs.map (Value.int .i64)) hs (by omega) (by omega)
      (growslice_fits (by omega) (by rw [hz2]; omega))
    refine ⟨_, _, hr, ⟨some ⟨W.heap.size, 0, none⟩, _, by rw [Nat.zero_add], .inr ⟨W.heap.size, rfl, Nat.le_refl _, by simp, fun j hj => ?_, fun j => ?_⟩⟩, (Below.refl _ W).drew.alloc (Nat.le_refl _) _⟩
    · have := alloc_cell W.drew (([] ++ zs.map (Value.int .i64)).toArray ++ Builtin.zeroCells (Value.int .i64 0).cells (grownCap W (0 + zs.length) 0 3 - (0 + zs.length))) 3 j
      refine this.trans ?_
      rw [Array.getElem?_append_left (by simpa using hj)]
      simp [hj]
    · exact new_frozen W.drew _ _ _
theorem wpList_app_ints {ops : Array Oper} {rest : List Oper} {o : Oper} {a : Act} {Q : Exit → Act → World → Prop} (w : World) (hgd : o.guard = none) (s x : Operand)
    (ho : o.op = .call { callee := .builtin .append, args := #[s, x], argTypes := #[63, 63] }) (hty : o.type = 63) (base : Option Addr) (hs : a.eval s = .slice base 0 0) (hb : base = none ∨ ∃ B : Nat, base = some ⟨B, 0, none⟩)
    (aa : Option Addr) (ca : Nat) (zs : List Int) (hx : a.eval x = .slice aa zs.length ca) (lo n : Nat) (hI : IsInts w lo n aa zs) (hl : zs.length ≤ 1048576)
    (h : ∀ v' w', OwnI w' w.heap.size w'.heap.size v' zs → Below w.heap.size w w' → wpList Tryz.prog ops Q rest (a.put o.dst v') w') : wpList Tryz.prog ops Q (o :: rest) a w :=
  wpList_plain hgd fun _ hK => by
    obtain ⟨v', w', hr, h2, h3⟩ := run_app_ints w base hb aa ca zs lo n hI hl
    unfold Oper.wp execOp
    simp only [ho, hty, resolve, invoke, builtin, Sem.run_bind, Sem.run_pure, Result.andThen_ok, List.map_toArray, List.map_cons, List.map_nil, hs, hx, hr]
    exact hK _ _ (h v' w' h2 h3)
/-- What a signature as an answer is: its numbers in a block of its own. -/
def OwnSig (w : World) (lo : Nat) (r : Ending) (s : TS) (w' : World) : Prop := ∃ v : Value, r = .returned (.agg #[.string s.name, v, .int .i64 s.type]) ∧ OwnI w' lo w'.heap.size v s.args ∧ Below w.heap.size w w'

end Go.Proofs.YtkiaidjkhhljhaaGreat
