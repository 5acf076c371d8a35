/- The walk of spec.l4Sig: a line in new memory. Conditions: the line can be read. And: The walk of spec.l4Sig: a line in new memory. Conditions: the line can be read. -/
import Derived.Test.YtkiaidjkhhljhaaHa
import Derived.Test.YtkiaidjkhhljhaaJc
import Derived.Laws.AppendOwn
import Derived.Deep.AppendSrc
namespace Go.Proofs.Ytkiaidjkhhljhaa
open Go.RowKit Go.PlainAid

theorem own_of_row {w : World} {lo : Nat} {v : Value} {k : Nat} {zs : List Int} (h : w.ownsRow lo 3 1 v k (zs.map (Value.int .i64))) : OwnI w lo w.heap.size v zs := by
  obtain ⟨hl, h⟩ := h
  have hk : k = zs.length := by simpa using hl.symm
  subst hk
  rcases h with ⟨rfl, h0⟩ | ⟨g, cap, cur, rfl, hb, hg, hc, hm, hs, ht⟩
  · refine ⟨none, 0, by rw [h0], .inl (List.length_eq_zero_iff.1 h0)⟩
  · refine ⟨some ⟨g, 0, none⟩, cap, rfl, .inr ⟨g, rfl, hb, ?_, fun j hj => ?_, fun j => ?_⟩⟩
    · rcases Nat.lt_or_ge g w.heap.size with h | h
      · exact h
      · rw [Array.getElem?_eq_none h] at hg; cases hg
    · have : cur.toList[j]? = some (.int .i64 zs[j]) := by
        have e : (cur.toList.take (zs.length * 1))[j]? = some (.int .i64 zs[j]) := by rw [ht]; simp [hj]
        rwa [List.getElem?_take_of_lt (by omega)] at e
      rw [World.cell?]
      simp [hg, ← Array.getElem?_toList, this]
    · simp [World.frozen?, hg]

theorem app0 (b : Nat) (aa : Option Addr) (ca : Nat) (W : World) : (Builtin.append_ #[22, 22] 22 #[.slice (some ⟨b, 0, none⟩) 0 0, .slice aa 0 ca]).run Try.prog W = .ok (.slice (some ⟨b, 0, none⟩) 0 0) W := by
  obtain ⟨i0, hi, hz0, hz1, hz2⟩ := info_parts intinfo
  have hs : Src Try.prog i0.size 22 (.slice aa 0 ca) 0 [] W := by
    cases aa with
    | none => exact Src.ofNil W Try.underlying22 ca
    | some ad => exact Src.ofSlice W Try.underlying22 ad 0 ca [] (by simp) (fun j u hu => by simp at hu) (fun u hu => by cases hu)
  have := run_append_room_src (P := Try.prog) W 22 22 22 3 i0 Try.underlying22 hi b 0 0 0 (.slice aa 0 ca) 0 [] hs (by omega) (fun j hj => by simp at hj) (fun j hj => by simp at hj)
  simpa [World.setCells] using this
theorem appN (aa : Option Addr) (ca : Nat) (W : World) : (Builtin.append_ #[22, 22] 22 #[.slice none 0 0, .slice aa 0 ca]).run Try.prog W = .ok (.slice none 0 0) W := by
  obtain ⟨i0, hi, hz0, hz1, hz2⟩ := info_parts intinfo
  have hs : Src Try.prog i0.size 22 (.slice aa 0 ca) 0 [] W := by
    cases aa with
    | none => exact Src.ofNil W Try.underlying22 ca
    | some ad => exact Src.ofSlice W Try.underlying22 ad 0 ca [] (by simp) (fun j u hu => by simp at hu) (fun u hu => by cases hu)
  simp [Builtin.append_, run_underlying Try.underlying22, sizeOf, typeInfo, hi, hs.len, hs.cells]
theorem run_app_ints (W : World) (base : Option Addr) (hb : base = none ∨ ∃ B : Nat, base = some ⟨B, 0, none⟩) (aa : Option Addr) (ca : Nat) (zs : List Int) (lo n : Nat) (hI : IsInts W lo n aa zs) (hl : zs.length ≤ 1048576) :
    ∃ v' W', (Builtin.append_ #[22, 22] 22 #[.slice base 0 0, .slice aa zs.length ca]).run Try.prog W = .ok v' W' ∧ OwnI W' W.heap.size W'.heap.size v' zs ∧ Below W.heap.size W W' := by
  obtain ⟨i0, hi, hz0, hz1, hz2⟩ := info_parts intinfo
  rcases hI with rfl | ⟨b, off, rfl, hbl, hbn, hcs⟩
  · rcases hb with rfl | ⟨B, rfl⟩
    · exact ⟨_, _, appN aa ca W, ⟨none, 0, rfl, .inl rfl⟩, Below.refl _ _⟩
    · exact ⟨_, _, app0 B aa ca W, ⟨_, 0, rfl, .inl rfl⟩, Below.refl _ _⟩
  · by_cases h0 : zs = []
    · subst h0
      rcases hb with rfl | ⟨B, rfl⟩
      · exact ⟨_, _, appN _ ca W, ⟨none, 0, rfl, .inl rfl⟩, Below.refl _ _⟩
      · exact ⟨_, _, app0 B _ ca W, ⟨_, 0, rfl, .inl rfl⟩, Below.refl _ _⟩
    have hpos : 0 < zs.length := List.length_pos_iff.2 h0
    have hs : Src Try.prog i0.size 22 (.slice (some ⟨b, off, none⟩) zs.length ca) zs.length (zs.map (Value.int .i64)) W :=
      Src.ofSlice W Try.underlying22 ⟨b, off, none⟩ zs.length ca (zs.map (Value.int .i64)) (by rw [hz1]; simp) (fun j u hu => by
        rw [Addr.add_lit]
        rw [List.getElem?_map] at hu
        rcases Nat.lt_or_ge j zs.length with hj | hj
        · rw [List.getElem?_eq_getElem hj] at hu
          cases hu
          exact hcs j hj
        · rw [List.getElem?_eq_none hj] at hu; cases hu) (fun u hu => by
        obtain ⟨z, _, rfl⟩ := List.mem_map.1 hu
        rfl)
    have hold : (Builtin.firstCells i0.size 0 (.slice base 0 0)).run Try.prog W.drew = .ok ([] : List Value).toArray W.drew := by
      rcases hb with rfl | ⟨B, rfl⟩
      · exact run_firstCells_none _ _ _ _ _
      · exact run_firstCells_some _ _ _ _ _ _ [] (by simp) (fun j v hv => by simp at hv)
    have hr := run_append_grow_src (P := Try.prog) W 22 22 22 3 i0 (.int .i64 0) Try.underlying22 hi hz0 base 0 0 [] hold (.slice (some ⟨b, off, none⟩) zs.length ca) zs.length (zs.map (Value.int .i64)) hs (by omega) (by omega)
      (growslice_fits (by omega) (by rw [hz2]; omega))
    refine ⟨_, _, hr, ⟨some ⟨W.heap.size, 0, none⟩, _, by rw [Nat.zero_add], .inr ⟨W.heap.size, rfl, Nat.le_refl _, by simp, fun j hj => ?_, fun j => ?_⟩⟩, (Below.refl _ W).drew.alloc (Nat.le_refl _) _⟩
    · have := alloc_cell W.drew (([] ++ zs.map (Value.int .i64)).toArray ++ Builtin.zeroCells (Value.int .i64 0).cells (grownCap W (0 + zs.length) 0 3 - (0 + zs.length))) 3 j
      refine this.trans ?_
      rw [Array.getElem?_append_left (by simpa using hj)]
      simp [hj]
    · exact new_frozen W.drew _ _ _
theorem wpList_app_ints {ops : Array Oper} {rest : List Oper} {o : Oper} {a : Act} {Q : Exit → Act → World → Prop} (w : World) (hgd : o.guard = none) (s x : Operand)
    (ho : o.op = .call { callee := .builtin .append, args := #[s, x], argTypes := #[22, 22] }) (hty : o.type = 22) (base : Option Addr) (hs : a.eval s = .slice base 0 0) (hb : base = none ∨ ∃ B : Nat, base = some ⟨B, 0, none⟩)
    (aa : Option Addr) (ca : Nat) (zs : List Int) (hx : a.eval x = .slice aa zs.length ca) (lo n : Nat) (hI : IsInts w lo n aa zs) (hl : zs.length ≤ 1048576)
    (h : ∀ v' w', OwnI w' w.heap.size w'.heap.size v' zs → Below w.heap.size w w' → wpList Try.prog ops Q rest (a.put o.dst v') w') : wpList Try.prog ops Q (o :: rest) a w :=
  wpList_plain hgd fun _ hK => by
    obtain ⟨v', w', hr, h2, h3⟩ := run_app_ints w base hb aa ca zs lo n hI hl
    unfold Oper.wp execOp
    simp only [ho, hty, resolve, invoke, builtin, Sem.run_bind, Sem.run_pure, Result.andThen_ok, List.map_toArray, List.map_cons, List.map_nil, hs, hx, hr]
    exact hK _ _ (h v' w' h2 h3)
/-- What a signature as an answer is: its numbers in a block of its own. -/
def OwnSig (w : World) (lo : Nat) (r : Ending) (s : TS) (w' : World) : Prop := ∃ v : Value, r = .returned (.agg #[.string s.name, v, .int .i64 s.type]) ∧ OwnI w' lo w'.heap.size v s.args ∧ Below w.heap.size w w'

set_option maxRecDepth 100000 in
set_option maxHeartbeats 1000000 in
theorem l4Sig_any (lo : Nat) (v : Value) (s : TS) (w : World) (hS : IsSig w lo w.heap.size v s) (hl : s.args.length ≤ 1048576) :
    Calls Try.prog 29 #[v] w fun r w' => OwnSig w w.heap.size r s w' := by
  obtain ⟨i0, hi, hz0, hz1, hz2⟩ := info_parts intinfo
  obtain ⟨nm, args, ty⟩ := s
  obtain ⟨aa, ca, rfl, _, ha⟩ := hS
  dsimp only at ha hl
  show Calls Try.prog 29 #[.agg #[.string nm, .slice aa args.length ca, .int .i64 ty]] w fun r w' => ∃ v : Value, r = .returned (.agg #[.string nm, v, .int .i64 ty]) ∧ OwnI w' w.heap.size w'.heap.size v args ∧ Below w.heap.size w w'
  have HA := hide (fun (W : World) (hb : Below w.heap.size w W) => ha.kept hb hb.size)
  clear ha
  go_enter Try.func29, Try.ntmps29
  go_wp2_with (at_builtin; refine wpList_app_ints _ rfl _ _ rfl rfl _ rfl (.inr ⟨_, rfl⟩) aa ca args rfl _ _ (unhide HA _ ((((Below.refl _ w).alloc (Nat.le_refl _) _).alloc (by simp) _).alloc (by simp; omega) _)) hl ?_; intro v2 w2 ho2 hb2; obtain ⟨a2, c2, rfl, hk2⟩ := ho2; have hB2 : Below w.heap.size w w2 := (((((Below.refl _ w).alloc (Nat.le_refl _) _).alloc (by simp) _).alloc (by simp; omega) _)).trans (hb2.mono (by simp; omega)); have n1 : Blk w2 w.heap.size [Value.string nm, Value.slice aa args.length ca, Value.int .i64 ty] := (((Blk.new w [Value.string nm, Value.slice aa args.length ca, Value.int .i64 ty] 37).old _ (by simp only [alloc_size]; omega)).old _ (by simp only [alloc_size]; omega)).below hb2 (by simp only [alloc_size]; omega); have n2 : Blk w2 (w.heap.size + 1) [Value.string ⟨#[]⟩, Value.slice none 0 0, Value.int .i64 0] := (by have := ((Blk.new (w.alloc (.cells [Value.string nm, Value.slice aa args.length ca, Value.int .i64 ty].toArray 37)) [Value.string ⟨#[]⟩, Value.slice none 0 0, Value.int .i64 0] 37).old (.cells #[] 3) (by simp only [alloc_size]; omega)).below hb2 (by simp only [alloc_size]; omega); rw [alloc_size] at this; exact this); have hS2 : w.heap.size + 3 ≤ w2.heap.size := (by have := hb2.size; rw [alloc_size, alloc_size, alloc_size] at this; omega); have p0 := n1.cellAt (i := 0) rfl; have p1 := n1.cellAt (i := 1) rfl; have p2 := n1.cellAt (i := 2) rfl; have q0 := n2.cellAt (i := 0) rfl; have q1 := n2.cellAt (i := 1) rfl; have q2 := n2.cellAt (i := 2) rfl; have e1 := n1.2 1; have f0 := n2.2 0; have f1 := n2.2 1; have f2 := n2.2 2; have N2 := hide n2; have HB2 := hide hB2; have HS2 := hide hS2; have HK2 := hide hk2; clear n1 n2 hB2 hS2 hk2 hb2)
  obtain ⟨F, hF⟩ : ∃ F, F = ((((w2.setCell ⟨w.heap.size, 1, none⟩ (.slice a2 args.length c2)).setCell ⟨w.heap.size + 1, 0, none⟩ (.string nm)).setCell ⟨w.heap.size + 1, 1, none⟩ (.slice a2 args.length c2)).setCell ⟨w.heap.size + 1, 2, none⟩ (.int .i64 ty)) := ⟨_, rfl⟩
  have hn := ((((unhide N2).other w.heap.size 1 (.slice a2 args.length c2) (by omega)).set 0 (.string nm) (by simp)).set 1 (.slice a2 args.length c2) (by simp)).set 2 (.int .i64 ty) (by simp)
  have hFB := ((((Below.refl w.heap.size w2).setCell (p := ⟨w.heap.size, 1, none⟩) (by simp) (.slice a2 args.length c2)).setCell (p := ⟨w.heap.size + 1, 0, none⟩) (by simp) (.string nm)).setCell (p := ⟨w.heap.size + 1, 1, none⟩) (by simp) (.slice a2 args.length c2)).setCell (p := ⟨w.heap.size + 1, 2, none⟩) (by simp) (.int .i64 ty)
  have hFO : ∀ b, w.heap.size + 3 ≤ b → F.heap[b]? = w2.heap[b]? := fun b hb => by rw [hF, Below.heap_setCell _ _ _ _ (by simp; omega), Below.heap_setCell _ _ _ _ (by simp; omega), Below.heap_setCell _ _ _ _ (by simp; omega), Below.heap_setCell _ _ _ _ (by simp; omega)]
  have hFS : F.heap.size = w2.heap.size := by rw [hF]; simp [World.setCell]
  rw [← hF] at hn hFB ⊢
  have g0 := hn.cellAt (i := 0) rfl
  have g1 := hn.cellAt (i := 1) rfl
  have g2 := hn.cellAt (i := 2) rfl
  refine bodyPost_ret (v := .agg #[Value.string nm, Value.slice a2 args.length c2, Value.int .i64 ty]) (by simp [results, Try.results29, go_sem, g0, g1, g2]) rfl ?_
  refine ⟨_, rfl, ⟨a2, c2, rfl, ?_⟩, (unhide HB2).trans hFB⟩
  rcases unhide HK2 with h | ⟨b, h1, h2, h3, h4, h5⟩
  · exact .inl h
  · rw [alloc_size, alloc_size, alloc_size] at h2
    have hblk := hFO b (by omega)
    exact .inr ⟨b, h1, by omega, by omega, fun j hj => (World.cell?_of_block (w := w2) (a := ⟨b, j, none⟩) hblk).trans (h4 j hj), fun j => (World.frozen?_of_block (w := w2) (a := ⟨b, j, none⟩) hblk).trans (h5 j)⟩
end Go.Proofs.Ytkiaidjkhhljhaa
