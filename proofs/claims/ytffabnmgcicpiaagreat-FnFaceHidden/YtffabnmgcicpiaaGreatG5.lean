/- The walk of spec.l4Sig: a line in new memory. Conditions: the line can be read. And: The walk of spec.l4Sig: a line in new memory. Conditions: the line can be read. The library's contract for stringslite.Clone, laid at this translation's numbers, and the walk of strings.Clone. No conditions but that the text is a Go string. The walk of impl.faceSigOf: the signature of a function, in new memory. Conditions: the function can be read, and weighs at most 2^20. The walk of spec.l3Of: the signature of a function, in new memory. Conditions: the function can be read, and weighs at most 2^20. -/
import Derived.Test.YtffabnmgcicpiaaGreatG3
import Derived.Test.YtffabnmgcicpiaaGreatG2
import Derived.Laws.AppendOwn
import Derived.Deep.AppendSrc
import Derived.Shelf.LaysM
import Derived.Shelf.Strconv.Clone
import Derived.Test.YtffabnmgcicpiaaGreatG1
import Derived.Deep.CutRange
import Derived.Deep.RegionWith
import Derived.Deep.AppendLies
import Derived.Deep.RegionLaw
namespace Go.Proofs.YtffabnmgcicpiaaGreat
open Go.RowKit Go.PlainAid

theorem own_of_row {w : World} {lo : Nat} {v : Value} {k : Nat} {zs : List Int} (h : w.ownsRow lo 3 1 v k (zs.map (Value.int .i64))) : OwnI w lo w.heap.size v zs := by
  obtain ⟨hl, h⟩ := h
  have hk : k = zs.length := by simpa using hl.symm
  subst hk
  rcases h with ⟨rfl, h0⟩ | ⟨g, cap, cur, rfl, hb, hg, hc, hm, hs, ht⟩
  · refine ⟨none, 0, by rw [h0], .inl (List.length_eq_zero_iff.1 h0)⟩
  · refine ⟨some ⟨g, 0, none⟩, cap, rfl, .inr ⟨g, rfl, hb, ?_, fun j hj => ?_, fun j => ?_⟩⟩
    · rcases Nat.lt_or_ge g w.heap.size with h | h
      · exact h
      · rw [Array.getElem?_eq_none h] at hg; cases hg
    · have : cur.toList[j]? = some (.int .i64 zs[j]) := by
        have e : (cur.toList.take (zs.length * 1))[j]? = some (.int .i64 zs[j]) := by rw [ht]; simp [hj]
        rwa [List.getElem?_take_of_lt (by omega)] at e
      rw [World.cell?]
      simp [hg, ← Array.getElem?_toList, this]
    · simp [World.frozen?, hg]

theorem app0 (b : Nat) (aa : Option Addr) (ca : Nat) (W : World) : (Builtin.append_ #[50, 50] 50 #[.slice (some ⟨b, 0, none⟩) 0 0, .slice aa 0 ca]).run Tryz.prog W = .ok (.slice (some ⟨b, 0, none⟩) 0 0) W := by
  obtain ⟨i0, hi, hz0, hz1, hz2⟩ := info_parts intinfo
  have hs : Src Tryz.prog i0.size 50 (.slice aa 0 ca) 0 [] W := by
    cases aa with
    | none => exact Src.ofNil W Tryz.underlying50 ca
    | some ad => exact Src.ofSlice W Tryz.underlying50 ad 0 ca [] (by simp) (fun j u hu => by simp at hu) (fun u hu => by cases hu)
  have := run_append_room_src (P := Tryz.prog) W 50 50 50 3 i0 Tryz.underlying50 hi b 0 0 0 (.slice aa 0 ca) 0 [] hs (by omega) (fun j hj => by simp at hj) (fun j hj => by simp at hj)
  simpa [World.setCells] using this
theorem appN (aa : Option Addr) (ca : Nat) (W : World) : (Builtin.append_ #[50, 50] 50 #[.slice none 0 0, .slice aa 0 ca]).run Tryz.prog W = .ok (.slice none 0 0) W := by
  obtain ⟨i0, hi, hz0, hz1, hz2⟩ := info_parts intinfo
  have hs : Src Tryz.prog i0.size 50 (.slice aa 0 ca) 0 [] W := by
    cases aa with
    | none => exact Src.ofNil W Tryz.underlying50 ca
    | some ad => exact Src.ofSlice W Tryz.underlying50 ad 0 ca [] (by simp) (fun j u hu => by simp at hu) (fun u hu => by cases hu)
  simp [Builtin.append_, run_underlying Tryz.underlying50, sizeOf, typeInfo, hi, hs.len, hs.cells]
theorem run_app_ints (W : World) (base : Option Addr) (hb : base = none ∨ ∃ B : Nat, base = some ⟨B, 0, none⟩) (aa : Option Addr) (ca : Nat) (zs : List Int) (lo n : Nat) (hI : IsInts W lo n aa zs) (hl : zs.length ≤ 1048576) :
    ∃ v' W', (Builtin.append_ #[50, 50] 50 #[.slice base 0 0, .slice aa zs.length ca]).run Tryz.prog W = .ok v' W' ∧ OwnI W' W.heap.size W'.heap.size v' zs ∧ Below W.heap.size W W' := by
  obtain ⟨i0, hi, hz0, hz1, hz2⟩ := info_parts intinfo
  rcases hI with rfl | ⟨b, off, rfl, hbl, hbn, hcs⟩
  · rcases hb with rfl | ⟨B, rfl⟩
    · exact ⟨_, _, appN aa ca W, ⟨none, 0, rfl, .inl rfl⟩, Below.refl _ _⟩
    · exact ⟨_, _, app0 B aa ca W, ⟨_, 0, rfl, .inl rfl⟩, Below.refl _ _⟩
  · by_cases h0 : zs = []
    · subst h0
      rcases hb with rfl | ⟨B, rfl⟩
      · exact ⟨_, _, appN _ ca W, ⟨none, 0, rfl, .inl rfl⟩, Below.refl _ _⟩
      · exact ⟨_, _, app0 B _ ca W, ⟨_, 0, rfl, .inl rfl⟩, Below.refl _ _⟩
    have hpos : 0 < zs.length := List.length_pos_iff.2 h0
    have hs : Src Tryz.prog i0.size 50 (.slice (some ⟨b, off, none⟩) zs.length ca) zs.length (zs.map (Value.int .i64)) W :=
      Src.ofSlice W Tryz.underlying50 ⟨b, off, none⟩ zs.length ca (zs.map (Value.int .i64)) (by rw [hz1]; simp) (fun j u hu => by
        rw [Addr.add_lit]
        rw [List.getElem?_map] at hu
        rcases Nat.lt_or_ge j zs.length with hj | hj
        · rw [List.getElem?_eq_getElem hj] at hu
          cases hu
          exact hcs j hj
        · rw [List.getElem?_eq_none hj] at hu; cases hu) (fun u hu => by
        obtain ⟨z, _, rfl⟩ := List.mem_map.1 hu
        rfl)
    have hold : (Builtin.firstCells i0.size 0 (.slice base 0 0)).run Tryz.prog W.drew = .ok ([] : List Value).toArray W.drew := by
      rcases hb with rfl | ⟨B, rfl⟩
      · exact run_firstCells_none _ _ _ _ _
      · exact run_firstCells_some _ _ _ _ _ _ [] (by simp) (fun j v hv => by simp at hv)
    have hr := run_append_grow_src (P := Tryz.prog) W 50 50 50 3 i0 (.int .i64 0) Tryz.underlying50 hi hz0 base 0 0 [] hold (.slice (some ⟨b, off, none⟩) zs.length ca) zs.length (zs.map (Value.int .i64)) hs (by omega) (by omega)
      (growslice_fits (by omega) (by rw [hz2]; omega))
    refine ⟨_, _, hr, ⟨some ⟨W.heap.size, 0, none⟩, _, by rw [Nat.zero_add], .inr ⟨W.heap.size, rfl, Nat.le_refl _, by simp, fun j hj => ?_, fun j => ?_⟩⟩, (Below.refl _ W).drew.alloc (Nat.le_refl _) _⟩
    · have := alloc_cell W.drew (([] ++ zs.map (Value.int .i64)).toArray ++ Builtin.zeroCells (Value.int .i64 0).cells (grownCap W (0 + zs.length) 0 3 - (0 + zs.length))) 3 j
      refine this.trans ?_
      rw [Array.getElem?_append_left (by simpa using hj)]
      simp [hj]
    · exact new_frozen W.drew _ _ _
theorem wpList_app_ints {ops : Array Oper} {rest : List Oper} {o : Oper} {a : Act} {Q : Exit → Act → World → Prop} (w : World) (hgd : o.guard = none) (s x : Operand)
    (ho : o.op = .call { callee := .builtin .append, args := #[s, x], argTypes := #[50, 50] }) (hty : o.type = 50) (base : Option Addr) (hs : a.eval s = .slice base 0 0) (hb : base = none ∨ ∃ B : Nat, base = some ⟨B, 0, none⟩)
    (aa : Option Addr) (ca : Nat) (zs : List Int) (hx : a.eval x = .slice aa zs.length ca) (lo n : Nat) (hI : IsInts w lo n aa zs) (hl : zs.length ≤ 1048576)
    (h : ∀ v' w', OwnI w' w.heap.size w'.heap.size v' zs → Below w.heap.size w w' → wpList Tryz.prog ops Q rest (a.put o.dst v') w') : wpList Tryz.prog ops Q (o :: rest) a w :=
  wpList_plain hgd fun _ hK => by
    obtain ⟨v', w', hr, h2, h3⟩ := run_app_ints w base hb aa ca zs lo n hI hl
    unfold Oper.wp execOp
    simp only [ho, hty, resolve, invoke, builtin, Sem.run_bind, Sem.run_pure, Result.andThen_ok, List.map_toArray, List.map_cons, List.map_nil, hs, hx, hr]
    exact hK _ _ (h v' w' h2 h3)
/-- What a signature as an answer is: its numbers in a block of its own. -/
def OwnSig (w : World) (lo : Nat) (r : Ending) (s : TS) (w' : World) : Prop := ∃ v : Value, r = .returned (.agg #[.string s.name, v, .int .i64 s.type]) ∧ OwnI w' lo w'.heap.size v s.args ∧ Below w.heap.size w w'

end Go.Proofs.YtffabnmgcicpiaaGreat

namespace Go.Proofs
open Go.Shelf
def Tryz.laysM316_ren : Go.Shelf.Ren := ⟨fun | 316 => 45 | n => n, fun | 9 => 9 | 3 => 3 | 4 => 4 | 37 => 22 | 0 => 0 | 127 => 123 | 5 => 5 | n => n, fun | n => n⟩
theorem Tryz.laysM316 : Go.Proofs.LaysM.n316 Tryz.prog Tryz.laysM316_ren := {
  mixed := by kernel_rfl
  f316 := Tryz.func45.trans (congrArg some (by kernel_rfl))
  t0 := Tryz.underlying0
  a0 := Tryz.isAgg0
  z0 := Tryz.sizeOf0
  v0 := Tryz.zeroValue0
  t3 := Tryz.underlying3
  a3 := Tryz.isAgg3
  z3 := Tryz.sizeOf3
  v3 := Tryz.zeroValue3
  t4 := Tryz.underlying4
  a4 := Tryz.isAgg4
  z4 := Tryz.sizeOf4
  v4 := Tryz.zeroValue4
  t9 := Tryz.underlying9
  a9 := Tryz.isAgg9
  z9 := Tryz.sizeOf9
  v9 := Tryz.zeroValue9
  t37 := Tryz.underlying22
  a37 := Tryz.isAgg22
  z37 := Tryz.sizeOf22
  v37 := Tryz.zeroValue22
  t127 := Tryz.underlying123
  a127 := Tryz.isAgg123
  z127 := Tryz.sizeOf123
  v127 := Tryz.zeroValue123
  t5 := Tryz.underlying5
  a5 := Tryz.isAgg5
  z5 := Tryz.sizeOf5
  v5 := Tryz.zeroValue5
  i0 := by kernel_rfl
  i3 := by kernel_rfl
  i4 := by kernel_rfl
  i5 := by kernel_rfl
  i9 := by kernel_rfl
  i37 := by kernel_rfl
  i127 := by kernel_rfl }
open Go.RowKit in
theorem Tryz.stringslite_Clone (s : ByteArray) (w : World) (hlim : s.size ≤ 281474976710656) :
    Calls Tryz.prog 45 #[.string s] w fun e w' => e = .returned (.string s) ∧ Below w.heap.size w w' := Any.stringslite_Clone Tryz.laysM316 s w hlim
namespace YtffabnmgcicpiaaGreat
open Go.RowKit Go.PlainAid
theorem Clone_any (s : ByteArray) (w : World) (hs : s.size ≤ 281474976710656) :
    Calls Tryz.prog 29 #[.string s] w fun e w' => e = .returned (.string s) ∧ Below w.heap.size w w' := by
  go_enter Tryz.func29, Tryz.ntmps29
  go_wp2_with fail
  refine (Tryz.stringslite_Clone _ _ hs).mono ?_
  rintro e w1 ⟨rfl, hb⟩
  go_wp2
  go_ret
  exact ⟨rfl, hb⟩
end YtffabnmgcicpiaaGreat
end Go.Proofs

namespace Go.Proofs.YtffabnmgcicpiaaGreat
open Go.RowKit Go.PlainAid

theorem own_sliceN {W : World} {m e size k : Nat} {v : Value} {xs : List Value} (h : W.ownsRow m e size v k xs) : ∃ ao cap, v = .slice ao k cap := by
  rcases h.2 with ⟨h1, h2⟩ | ⟨g, cap, cur, h1, _⟩
  · exact ⟨none, 0, by rw [h1, h2]⟩
  · exact ⟨_, cap, h1⟩
theorem own_keptN {W W' : World} {base e s n : Nat} {v : Value} {xs : List Value} (h : W.ownsRow base e s v n xs) (hb : Below W.heap.size W W') : W'.ownsRow base e s v n xs := by
  refine ⟨h.1, ?_⟩
  rcases h.2 with h1 | ⟨g, cap, cur, h1, h2, h3, h4⟩
  · exact .inl h1
  · refine .inr ⟨g, cap, cur, h1, h2, ?_, h4⟩
    rw [hb.block g (by
      rcases Nat.lt_or_ge g W.heap.size with h | h
      · exact h
      · rw [Array.getElem?_eq_none h] at h3; cases h3)]
    exact h3
theorem one_newN (W : World) (v : Value) (t : TypeId) : ∀ j u, [v][j]? = some u → (W.alloc (.cells #[v] t)).cell? ((⟨W.heap.size, 0, none⟩ : Addr).add j) = some u := fun j u hu => by
  rw [Addr.add_lit, Nat.zero_add, alloc_cell]
  simpa using hu
theorem own_setN {W : World} {base e s n B j : Nat} {v u : Value} {xs : List Value} (h : W.ownsRow base e s v n xs) (hB : B < base) : (W.setCell ⟨B, j, none⟩ u).ownsRow base e s v n xs := by
  refine ⟨h.1, ?_⟩
  rcases h.2 with h1 | ⟨g, cap, cur, h1, h2, h3, h4⟩
  · exact .inl h1
  · exact .inr ⟨g, cap, cur, h1, h2, by rw [Below.heap_setCell _ _ _ _ (by simp; omega)]; exact h3, h4⟩
/-- The signature of a function. -/
def sigOf (f : TF) : TS := ⟨f.name, f.args.map TA.type, f.type⟩

set_option maxRecDepth 100000 in
set_option maxHeartbeats 4000000 in
theorem faceSigOf_any (lo h : Nat) (v : Value) (f : TF) (w : World) (hF : IsFun w lo w.heap.size h v f) (hl : f.args.length ≤ 1048576) (hs : f.name.size ≤ 1048576) :
    Calls Tryz.prog 13 #[v] w fun r w' => OwnSig w w.heap.size r (sigOf f) w' := by
  obtain ⟨i0, hi, hz0, hz1, hz2⟩ := info_parts intinfo
  obtain ⟨nm, pb, args, ty, body⟩ := f
  obtain ⟨aa, ca, b0, b1, b2, b3, b4, rfl, _, ha, _⟩ := hF
  dsimp only at ha hl hs
  show Calls Tryz.prog 13 #[.agg #[.string nm, .bool pb, .slice aa args.length ca, .int .i64 ty, b0, b1, b2, b3, b4]] w fun r w' => ∃ v : Value, r = .returned (.agg #[.string nm, v, .int .i64 ty]) ∧ OwnI w' w.heap.size w'.heap.size v (args.map TA.type) ∧ Below w.heap.size w w'
  have HA := hide (fun (W : World) (hb : Below w.heap.size w W) => ha.kept hb hb.size)
  have HC := hide (fun (W : World) => Clone_any nm W (by omega))
  clear ha hs
  have N0 : Hid (Blk ((w.alloc (.cells [Value.string nm, Value.bool pb, Value.slice aa args.length ca, Value.int .i64 ty, b0, b1, b2, b3, b4].toArray 33)).alloc (.cells [Value.string ⟨#[]⟩, Value.slice none 0 0, Value.int .i64 0].toArray 52)) w.heap.size [Value.string nm, Value.bool pb, Value.slice aa args.length ca, Value.int .i64 ty, b0, b1, b2, b3, b4]) := hide ((Blk.new w [Value.string nm, Value.bool pb, Value.slice aa args.length ca, Value.int .i64 ty, b0, b1, b2, b3, b4] 33).old _ (by simp))
  have N1 : Hid (Blk ((w.alloc (.cells [Value.string nm, Value.bool pb, Value.slice aa args.length ca, Value.int .i64 ty, b0, b1, b2, b3, b4].toArray 33)).alloc (.cells [Value.string ⟨#[]⟩, Value.slice none 0 0, Value.int .i64 0].toArray 52)) (w.heap.size + 1) [Value.string ⟨#[]⟩, Value.slice none 0 0, Value.int .i64 0]) := hide (by
    have := Blk.new (w.alloc (.cells [Value.string nm, Value.bool pb, Value.slice aa args.length ca, Value.int .i64 ty, b0, b1, b2, b3, b4].toArray 33)) [Value.string ⟨#[]⟩, Value.slice none 0 0, Value.int .i64 0] 52
    rw [alloc_size] at this
    exact this)
  have HW : Hid (Below w.heap.size w ((w.alloc (.cells [Value.string nm, Value.bool pb, Value.slice aa args.length ca, Value.int .i64 ty, b0, b1, b2, b3, b4].toArray 33)).alloc (.cells [Value.string ⟨#[]⟩, Value.slice none 0 0, Value.int .i64 0].toArray 52))) := hide (((Below.refl _ w).alloc (Nat.le_refl _) _).alloc (by simp) _)
  go_enter Tryz.func13, Tryz.ntmps13
  go_upto_region 1 with fail
  obtain ⟨W, hW⟩ : ∃ W, W = ((w.alloc (.cells [Value.string nm, Value.bool pb, Value.slice aa args.length ca, Value.int .i64 ty, b0, b1, b2, b3, b4].toArray 33)).alloc (.cells [Value.string ⟨#[]⟩, Value.slice none 0 0, Value.int .i64 0].toArray 52)) := ⟨_, rfl⟩
  have hWs : W.heap.size = w.heap.size + 1 + 1 := by rw [hW]; simp
  rw [← hW] at N0 N1 HW ⊢
  clear hW
  have p0 := (unhide N0).cellAt (i := 0) rfl
  have p3 := (unhide N0).cellAt (i := 3) rfl
  have HD0 : Hid (∀ W' : World, Below W.heap.size W W' → W'.cell? ⟨w.heap.size, 0, none⟩ = some (.string nm) ∧ W'.cell? ⟨w.heap.size, 3, none⟩ = some (.int .i64 ty)) := hide (fun W' hb => ⟨((unhide N0).below hb (by omega)).cellAt (i := 0) rfl, ((unhide N0).below hb (by omega)).cellAt (i := 3) rfl⟩)
  have p0' : ∀ o : Obj, (W.drew.alloc o).cell? ⟨w.heap.size, 0, none⟩ = some (.string nm) := fun o => (unhide HD0 _ ((Below.refl _ W).drew.alloc (Nat.le_refl _) o)).1
  have p3' : ∀ o : Obj, (W.drew.alloc o).cell? ⟨w.heap.size, 3, none⟩ = some (.int .i64 ty) := fun o => (unhide HD0 _ ((Below.refl _ W).drew.alloc (Nat.le_refl _) o)).2
  have hlt : w.heap.size < W.heap.size := by omega
  have hne : w.heap.size ≠ W.heap.size := by omega
  have HWS := hide hWs
  clear hWs
  go_cut [3] from 6 to 11 (fun s wc => ∃ B : Nat, s = .pointer (some ⟨B, 0, none⟩) ∧ w.heap.size + 2 ≤ B ∧ B < wc.heap.size ∧ Hid (Blk wc B [.string nm, .slice none 0 0, .int .i64 ty]) ∧ Hid (Below W.heap.size W wc))
  case first =>
    go_region_with (go_at_call 29; refine (unhide HC _).mono ?_; rintro r w2 ⟨rfl, hb2⟩; first | (have kW : Below W.heap.size W w2 := (Below.refl _ W).drew.trans hb2; have z3 := (unhide HD0 w2 kW).2; have z3' : ∀ o : Obj, (w2.alloc o).cell? ⟨w.heap.size, 3, none⟩ = some (.int .i64 ty) := fun o => (unhide HD0 _ (kW.alloc kW.size o)).2; have hlt2 : w.heap.size < w2.heap.size := (by have := kW.size; omega); have hne2 : w.heap.size ≠ w2.heap.size := (by omega)) | (have n3 : Blk w2 W.heap.size [Value.string ⟨#[]⟩, Value.slice none 0 0, Value.int .i64 0] := (Blk.new W.drew [Value.string ⟨#[]⟩, Value.slice none 0 0, Value.int .i64 0] 52).below hb2 (by simp); have y0 := n3.cellAt (i := 0) rfl; have y1 := n3.cellAt (i := 1) rfl; have y2 := n3.cellAt (i := 2) rfl; have x0 := n3.2 0; have x1 := n3.2 1; have x2 := n3.2 2; have kW : Below W.heap.size W w2 := (((Below.refl _ W).drew.alloc (Nat.le_refl _) _)).trans (hb2.mono (by simp)); have z3 := (unhide HD0 w2 kW).2; have z3' : ∀ o : Obj, (w2.alloc o).cell? ⟨w.heap.size, 3, none⟩ = some (.int .i64 ty) := fun o => (unhide HD0 _ (kW.alloc kW.size o)).2; have hlt2 : w.heap.size < w2.heap.size := (by have := kW.size; omega); have hne2 : w.heap.size ≠ w2.heap.size := (by omega)))
    all_goals (
      go_wp2_with fail
      go_meet)
    all_goals first
      | exact ⟨w2.heap.size, rfl, by have := unhide HWS; have := kW.size; omega, by simp, hide (Blk.new w2 [.string nm, .slice none 0 0, .int .i64 ty] 52), hide (kW.alloc kW.size _)⟩
      | exact ⟨W.heap.size, rfl, by have := unhide HWS; omega, by have := hb2.size; simp [World.setCell] at this ⊢; omega, hide (((n3.set 0 (.string nm) (by simp)).set 1 (.slice none 0 0) (by simp)).set 2 (.int .i64 ty) (by simp)), hide (((kW.setCell (p := ⟨W.heap.size, 0, none⟩) (Nat.le_refl _) _).setCell (p := ⟨W.heap.size, 1, none⟩) (Nat.le_refl _) _).setCell (p := ⟨W.heap.size, 2, none⟩) (Nat.le_refl _) _)⟩
  case rest =>
  obtain ⟨B, rfl, hB1, hB2, HBK, HBW⟩ := hcut
  clear p0 p3 p0' p3' hlt hne HD0 HC
  have n0 := (unhide N0).below (unhide HBW) (by have := unhide HWS; omega)
  have n1 := (unhide N1).below (unhide HBW) (by have := unhide HWS; omega)
  have hwc : Below w.heap.size w wc := (unhide HW).trans ((unhide HBW).mono (by have := unhide HWS; omega))
  have HWC := hide hwc
  have p2 := n0.cellAt (i := 2) rfl
  have NN1 := hide n1
  clear n0 n1 hwc N0 N1 HW HBW
  go_wp2
  go_loopw [5, 15] (fun _ i wr => ∃ (k : Nat) (v : Value), k ≤ args.length ∧ i = .int .i64 k ∧ Hid (wr.ownsRow wc.heap.size 3 1 v k (((args.take k).map TA.type).map (Value.int .i64))) ∧ Hid (Blk wr B [.string nm, v, .int .i64 ty]) ∧ Hid (Below B wc wr) ∧ B < wr.heap.size) (fun _ i _ => args.length - (intOf i).toNat)
  case atStart => exact ⟨0, .slice none 0 0, Nat.zero_le _, rfl, hide (World.ownsRow_nil _ _ _ _), HBK, hide (Below.refl _ _), hB2⟩
  case round =>
    obtain ⟨k, v, hk, rfl, HROW, HBLK, HB, hBr⟩ := hrel
    obtain ⟨vs, cp, rfl⟩ := own_sliceN (unhide HROW)
    have hwr : Below w.heap.size w wr := (unhide HWC).trans ((unhide HB).mono (by omega))
    have HWR := hide hwr
    clear hwr
    by_cases hp : k < args.length
    · rcases unhide HA _ (unhide HWR) with hq | ⟨b, off, rfl, hbl, hbn, hcs⟩
      · rw [hq] at hp; simp at hp
      obtain ⟨c0, c1, d0, d1, hr⟩ := hcs k hp
      have htk : args.take (k + 1) = args.take k ++ [args[k]] := List.take_succ_eq_append_getElem hp
      obtain ⟨x, hx⟩ : ∃ x, args[k]'hp = x := ⟨_, rfl⟩
      rw [hx] at hr htk
      have hv := hr.1
      simp only [Value.agg.injEq, Array.mk.injEq, List.cons.injEq, and_true] at hv
      obtain ⟨rfl, rfl⟩ := hv
      obtain ⟨xn, xt⟩ := x
      dsimp only at d0 d1
      have HTK := hide htk
      have e1 := (unhide HBLK).cellAt (i := 1) rfl
      have hBne : B ≠ wr.heap.size := by omega
      clear hcs hr hx htk
      go_wp2_with (at_builtin; refine wpList_append_own _ rfl _ _ 50 rfl wc.heap.size 3 i0 (.int .i64 0) 1 8 Tryz.underlying50 hi hz0 hz1 hz2 rfl (by decide) _ _ _ rfl (((unhide HROW).alloc _).alloc _) ⟨wr.heap.size + 1, 0, none⟩ 1 1 [.int .i64 xt] rfl rfl ?cn (by simp [Value.oneCell']) (by unfold maxLen; omega) (by omega) (by have := (unhide HB).size; simp; omega) ?_; rotate_left; intro v2 w3 hown2 hgrow2 _; obtain ⟨vs2, cp2, rfl⟩ := own_sliceN hown2; have hb3 : Below wc.heap.size ((wr.alloc (.cells #[.string xn, .int .i64 xt] 75)).alloc (.cells #[.int .i64 xt] 3)) w3 := ((Below.refl _ _).grown hgrow2 (by have := (unhide HB).size; simp; omega) (fun q hq => (((unhide HROW).lt q hq)).1)); have n3 : Blk w3 B [.string nm, .slice vs k cp, .int .i64 ty] := (((unhide HBLK).old _ hBr).old _ (by simp; omega)).below hb3 hB2; have g1 := n3.cellAt (i := 1) rfl; have f1 := n3.2 1; have NN3 := hide n3; have HB3 := hide hb3; have HO3 := hide hown2; clear n3 hb3 hown2 hgrow2 e1 d0 d1)
      case cn =>
        have := one_newN (wr.alloc (.cells #[.string xn, .int .i64 xt] 75)) (.int .i64 xt) 3
        rw [alloc_size] at this
        exact this
      go_roundw
      case rel =>
        refine ⟨k + 1, .slice vs2 (k + 1) cp2, by omega, by go_num, hide ?_, hide ((unhide NN3).set 1 (.slice vs2 (k + 1) cp2) (by simp)), hide ?_, ?_⟩
        · rw [unhide HTK, List.map_append, List.map_append]
          exact own_setN (unhide HO3) hB2
        · refine Below.setCell ?_ (p := ⟨B, 1, none⟩) (Nat.le_refl _) _
          exact (unhide HB).trans ((((Below.refl _ wr).alloc (by omega) _).alloc (by simp; omega) _).trans ((unhide HB3).mono (by omega)))
        · have := (unhide HB3).size
          simp [World.setCell] at this ⊢
          omega
      case measure => simp [intOf]; omega
    · have hek : k = args.length := by omega
      subst hek
      have HR := unhide HROW
      rw [List.take_of_length_le (Nat.le_refl _)] at HR
      have HOI := hide (own_of_row HR)
      clear HR
      have e0 := (unhide HBLK).cellAt (i := 0) rfl
      have e1 := (unhide HBLK).cellAt (i := 1) rfl
      have e2 := (unhide HBLK).cellAt (i := 2) rfl
      have n1 := (unhide NN1).below (unhide HB) (by omega)
      have q0 := n1.cellAt (i := 0) rfl
      have q1 := n1.cellAt (i := 1) rfl
      have q2 := n1.cellAt (i := 2) rfl
      have f0 := n1.2 0
      have f1 := n1.2 1
      have f2 := n1.2 2
      have N1R := hide n1
      clear n1
      go_wp2
      obtain ⟨F, hF⟩ : ∃ F, F = (((wr.setCell ⟨w.heap.size + 1, 0, none⟩ (.string nm)).setCell ⟨w.heap.size + 1, 1, none⟩ (.slice vs args.length cp)).setCell ⟨w.heap.size + 1, 2, none⟩ (.int .i64 ty)) := ⟨_, rfl⟩
      have hn := (((unhide N1R).set 0 (.string nm) (by simp)).set 1 (.slice vs args.length cp) (by simp)).set 2 (.int .i64 ty) (by simp)
      have hFB := (((Below.refl w.heap.size wr).setCell (p := ⟨w.heap.size + 1, 0, none⟩) (by simp) (.string nm)).setCell (p := ⟨w.heap.size + 1, 1, none⟩) (by simp) (.slice vs args.length cp)).setCell (p := ⟨w.heap.size + 1, 2, none⟩) (by simp) (.int .i64 ty)
      have hFO : ∀ b, w.heap.size + 2 ≤ b → F.heap[b]? = wr.heap[b]? := fun b hb => by rw [hF, Below.heap_setCell _ _ _ _ (by simp; omega), Below.heap_setCell _ _ _ _ (by simp; omega), Below.heap_setCell _ _ _ _ (by simp; omega)]
      have hFS : F.heap.size = wr.heap.size := by rw [hF]; simp [World.setCell]
      rw [← hF] at hn hFB ⊢
      have g0 := hn.cellAt (i := 0) rfl
      have g1 := hn.cellAt (i := 1) rfl
      have g2 := hn.cellAt (i := 2) rfl
      refine bodyPost_ret (v := .agg #[Value.string nm, Value.slice vs args.length cp, Value.int .i64 ty]) (by simp [results, Tryz.results13, go_sem, g0, g1, g2]) rfl ?_
      refine ⟨_, rfl, (unhide HOI).same (fun b hb hbn => ⟨fun j => World.cell?_of_block (w := wr) (a := ⟨b, j, none⟩) (hFO b (by omega)), fun j => World.frozen?_of_block (w := wr) (a := ⟨b, j, none⟩) (hFO b (by omega))⟩) (by have := (unhide HWC).size; omega) (by omega), (unhide HWR).trans hFB⟩
end Go.Proofs.YtffabnmgcicpiaaGreat

namespace Go.Proofs.YtffabnmgcicpiaaGreat
open Go.RowKit Go.PlainAid

set_option maxRecDepth 100000 in
set_option maxHeartbeats 4000000 in
theorem l3Of_any (lo h : Nat) (v : Value) (f : TF) (w : World) (hF : IsFun w lo w.heap.size h v f) (hl : f.args.length ≤ 1048576) :
    Calls Tryz.prog 21 #[v] w fun r w' => OwnSig w w.heap.size r (sigOf f) w' := by
  obtain ⟨i0, hi, hz0, hz1, hz2⟩ := info_parts intinfo
  obtain ⟨nm, pb, args, ty, body⟩ := f
  obtain ⟨aa, ca, b0, b1, b2, b3, b4, rfl, _, ha, _⟩ := hF
  dsimp only at ha hl
  show Calls Tryz.prog 21 #[.agg #[.string nm, .bool pb, .slice aa args.length ca, .int .i64 ty, b0, b1, b2, b3, b4]] w fun r w' => ∃ v : Value, r = .returned (.agg #[.string nm, v, .int .i64 ty]) ∧ OwnI w' w.heap.size w'.heap.size v (args.map TA.type) ∧ Below w.heap.size w w'
  have HA := hide (fun (W : World) (hb : Below w.heap.size w W) => ha.kept hb hb.size)
  clear ha
  have n0 : Blk (((w.alloc (.cells [Value.string nm, Value.bool pb, Value.slice aa args.length ca, Value.int .i64 ty, b0, b1, b2, b3, b4].toArray 33)).alloc (.cells [Value.string ⟨#[]⟩, Value.slice none 0 0, Value.int .i64 0].toArray 52)).alloc (.cells [Value.string nm, Value.slice none 0 0, Value.int .i64 ty].toArray 52)) w.heap.size [Value.string nm, Value.bool pb, Value.slice aa args.length ca, Value.int .i64 ty, b0, b1, b2, b3, b4] := ((Blk.new w [Value.string nm, Value.bool pb, Value.slice aa args.length ca, Value.int .i64 ty, b0, b1, b2, b3, b4] 33).old _ (by simp)).old _ (by simp only [alloc_size]; omega)
  have n1 : Blk (((w.alloc (.cells [Value.string nm, Value.bool pb, Value.slice aa args.length ca, Value.int .i64 ty, b0, b1, b2, b3, b4].toArray 33)).alloc (.cells [Value.string ⟨#[]⟩, Value.slice none 0 0, Value.int .i64 0].toArray 52)).alloc (.cells [Value.string nm, Value.slice none 0 0, Value.int .i64 ty].toArray 52)) (w.heap.size + 1) [Value.string ⟨#[]⟩, Value.slice none 0 0, Value.int .i64 0] := by
    have := (Blk.new (w.alloc (.cells [Value.string nm, Value.bool pb, Value.slice aa args.length ca, Value.int .i64 ty, b0, b1, b2, b3, b4].toArray 33)) [Value.string ⟨#[]⟩, Value.slice none 0 0, Value.int .i64 0] 52).old (.cells [Value.string nm, Value.slice none 0 0, Value.int .i64 ty].toArray 52) (by simp only [alloc_size]; omega)
    rw [alloc_size] at this
    exact this
  have n2 : Blk (((w.alloc (.cells [Value.string nm, Value.bool pb, Value.slice aa args.length ca, Value.int .i64 ty, b0, b1, b2, b3, b4].toArray 33)).alloc (.cells [Value.string ⟨#[]⟩, Value.slice none 0 0, Value.int .i64 0].toArray 52)).alloc (.cells [Value.string nm, Value.slice none 0 0, Value.int .i64 ty].toArray 52)) (w.heap.size + 1 + 1) [Value.string nm, Value.slice none 0 0, Value.int .i64 ty] := by
    have := Blk.new ((w.alloc (.cells [Value.string nm, Value.bool pb, Value.slice aa args.length ca, Value.int .i64 ty, b0, b1, b2, b3, b4].toArray 33)).alloc (.cells [Value.string ⟨#[]⟩, Value.slice none 0 0, Value.int .i64 0].toArray 52)) [Value.string nm, Value.slice none 0 0, Value.int .i64 ty] 52
    rw [alloc_size, alloc_size] at this
    exact this
  have hW : Below w.heap.size w (((w.alloc (.cells [Value.string nm, Value.bool pb, Value.slice aa args.length ca, Value.int .i64 ty, b0, b1, b2, b3, b4].toArray 33)).alloc (.cells [Value.string ⟨#[]⟩, Value.slice none 0 0, Value.int .i64 0].toArray 52)).alloc (.cells [Value.string nm, Value.slice none 0 0, Value.int .i64 ty].toArray 52)) := (((Below.refl _ w).alloc (Nat.le_refl _) _).alloc (by simp) _).alloc (by simp; omega) _
  go_enter Tryz.func21, Tryz.ntmps21
  go_wp2
  obtain ⟨W, hWW⟩ : ∃ W, W = (((w.alloc (.cells [Value.string nm, Value.bool pb, Value.slice aa args.length ca, Value.int .i64 ty, b0, b1, b2, b3, b4].toArray 33)).alloc (.cells [Value.string ⟨#[]⟩, Value.slice none 0 0, Value.int .i64 0].toArray 52)).alloc (.cells [Value.string nm, Value.slice none 0 0, Value.int .i64 ty].toArray 52)) := ⟨_, rfl⟩
  have hWs : W.heap.size = w.heap.size + 1 + 1 + 1 := by rw [hWW]; simp
  rw [← hWW] at n0 n1 n2 hW ⊢
  clear hWW
  have N0 := hide n0
  have N1 := hide n1
  have N2 := hide n2
  have HW := hide hW
  have HWS := hide hWs
  clear n0 n1 n2 hW hWs
  go_loopw [4] (fun i wr => ∃ (k : Nat) (v : Value), k ≤ args.length ∧ i = .int .i64 k ∧ Hid (wr.ownsRow W.heap.size 3 1 v k (((args.take k).map TA.type).map (Value.int .i64))) ∧ Hid (Blk wr (w.heap.size + 1 + 1) [.string nm, v, .int .i64 ty]) ∧ Hid (Below (w.heap.size + 1 + 1) W wr)) (fun i _ => args.length - (intOf i).toNat)
  case atStart => exact ⟨0, .slice none 0 0, Nat.zero_le _, rfl, hide (World.ownsRow_nil _ _ _ _), N2, hide (Below.refl _ _)⟩
  case round =>
    obtain ⟨k, v, hk, rfl, HROW, HBLK, HB⟩ := hrel
    obtain ⟨vs, cp, rfl⟩ := own_sliceN (unhide HROW)
    have HWR := hide ((unhide HW).trans ((unhide HB).mono (by omega)))
    have n0 := (unhide N0).below (unhide HB) (by omega)
    have p2 := n0.cellAt (i := 2) rfl
    clear n0
    have hsz : w.heap.size + 1 + 1 + 1 ≤ wr.heap.size := by have := unhide HWS; have := (unhide HB).size; omega
    have HSZ := hide hsz
    clear hsz
    by_cases hp : k < args.length
    · rcases unhide HA _ (unhide HWR) with hq | ⟨b, off, rfl, hbl, hbn, hcs⟩
      · rw [hq] at hp; simp at hp
      obtain ⟨c0, c1, d0, d1, hr⟩ := hcs k hp
      have htk : args.take (k + 1) = args.take k ++ [args[k]] := List.take_succ_eq_append_getElem hp
      obtain ⟨x, hx⟩ : ∃ x, args[k]'hp = x := ⟨_, rfl⟩
      rw [hx] at hr htk
      have hv := hr.1
      simp only [Value.agg.injEq, Array.mk.injEq, List.cons.injEq, and_true] at hv
      obtain ⟨rfl, rfl⟩ := hv
      obtain ⟨xn, xt⟩ := x
      dsimp only at d0 d1
      have HTK := hide htk
      have e1 := (unhide HBLK).cellAt (i := 1) rfl
      have hne : w.heap.size + 1 + 1 ≠ wr.heap.size := by have := unhide HSZ; omega
      have hne0 : w.heap.size ≠ wr.heap.size := by have := unhide HSZ; omega
      have hneb : b ≠ wr.heap.size := by omega
      have hlt : w.heap.size + 1 + 1 < wr.heap.size := by have := unhide HSZ; omega
      have hlt0 : w.heap.size < wr.heap.size := by have := unhide HSZ; omega
      clear hcs hr hx htk d0
      go_wp2_with fail
      go_region_law (refine step_append_lies _ rfl (.tmp 18) (.tmp 25) 50 rfl W.heap.size 3 i0 (.int .i64 0) 1 8 Tryz.underlying50 hi hz0 hz1 hz2 rfl (by decide) (.slice vs k cp) k (((args.take k).map TA.type).map (Value.int .i64)) rfl ((unhide HROW).alloc _) ⟨wr.heap.size, 0, none⟩ 1 1 [.int .i64 xt] rfl rfl (one_newN wr (.int .i64 xt) 3) (by simp [Value.oneCell']) (by decide) (by unfold maxLen; omega) (by omega) (by have := (unhide HB).size; simp; omega) (wr.heap.size + 1) (by simp) ?_; intro g4 c4 w4 hown4 hgrow4 hat4 hlt4; have hb3 : Below W.heap.size (wr.drew.alloc (.cells #[.int .i64 xt] 3)) w4 := ((Below.refl _ _).grown hgrow4 (by have := (unhide HB).size; simp; omega) (fun q hq => (((unhide HROW).lt q hq)).1)); have n3 : Blk w4 (w.heap.size + 1 + 1) [.string nm, .slice vs k cp, .int .i64 ty] := ((((unhide HBLK).below (Below.refl wr.heap.size wr).drew (by have := unhide HSZ; omega)).old _ (by have := unhide HSZ; simp; omega))).below hb3 (by have := unhide HWS; omega); have g1 := n3.cellAt (i := 1) rfl; have f1 := n3.2 1; have NN3 := hide n3; have HB3 := hide hb3; have HO3 := hide hown4; clear n3 hb3 hown4 hgrow4 hat4 hlt4)
      all_goals (
        go_wp2
        go_roundw
        case rel =>
          refine ⟨k + 1, .slice (some ⟨g4, 0, none⟩) (k + 1) c4, by omega, by go_num, hide ?_, hide ((unhide NN3).set 1 (.slice (some ⟨g4, 0, none⟩) (k + 1) c4) (by simp)), hide ?_⟩
          · rw [unhide HTK, List.map_append, List.map_append]
            exact own_setN (unhide HO3) (by have := unhide HWS; omega)
          · refine Below.setCell ?_ (p := ⟨w.heap.size + 1 + 1, 1, none⟩) (Nat.le_refl _) _
            exact (unhide HB).trans ((((Below.refl _ wr).drew.alloc (by have := unhide HSZ; simp; omega) _)).trans ((unhide HB3).mono (by have := unhide HWS; omega)))
        case measure => simp [intOf]; omega)
    · have hek : k = args.length := by omega
      subst hek
      have HR := unhide HROW
      rw [List.take_of_length_le (Nat.le_refl _)] at HR
      have HOI := hide (own_of_row HR)
      clear HR
      have e0 := (unhide HBLK).cellAt (i := 0) rfl
      have e1 := (unhide HBLK).cellAt (i := 1) rfl
      have e2 := (unhide HBLK).cellAt (i := 2) rfl
      have n1 := (unhide N1).below (unhide HB) (by omega)
      have q0 := n1.cellAt (i := 0) rfl
      have q1 := n1.cellAt (i := 1) rfl
      have q2 := n1.cellAt (i := 2) rfl
      have f0 := n1.2 0
      have f1 := n1.2 1
      have f2 := n1.2 2
      have N1R := hide n1
      clear n1
      go_wp2
      obtain ⟨F, hF⟩ : ∃ F, F = (((wr.setCell ⟨w.heap.size + 1, 0, none⟩ (.string nm)).setCell ⟨w.heap.size + 1, 1, none⟩ (.slice vs args.length cp)).setCell ⟨w.heap.size + 1, 2, none⟩ (.int .i64 ty)) := ⟨_, rfl⟩
      have hn := (((unhide N1R).set 0 (.string nm) (by simp)).set 1 (.slice vs args.length cp) (by simp)).set 2 (.int .i64 ty) (by simp)
      have hFB := (((Below.refl w.heap.size wr).setCell (p := ⟨w.heap.size + 1, 0, none⟩) (by simp) (.string nm)).setCell (p := ⟨w.heap.size + 1, 1, none⟩) (by simp) (.slice vs args.length cp)).setCell (p := ⟨w.heap.size + 1, 2, none⟩) (by simp) (.int .i64 ty)
      have hFO : ∀ b, w.heap.size + 2 ≤ b → F.heap[b]? = wr.heap[b]? := fun b hb => by rw [hF, Below.heap_setCell _ _ _ _ (by simp; omega), Below.heap_setCell _ _ _ _ (by simp; omega), Below.heap_setCell _ _ _ _ (by simp; omega)]
      have hFS : F.heap.size = wr.heap.size := by rw [hF]; simp [World.setCell]
      rw [← hF] at hn hFB ⊢
      have g0 := hn.cellAt (i := 0) rfl
      have g1 := hn.cellAt (i := 1) rfl
      have g2 := hn.cellAt (i := 2) rfl
      refine bodyPost_ret (v := .agg #[Value.string nm, Value.slice vs args.length cp, Value.int .i64 ty]) (by simp [results, Tryz.results21, go_sem, g0, g1, g2]) rfl ?_
      refine ⟨_, rfl, (unhide HOI).same (fun b hb hbn => ⟨fun j => World.cell?_of_block (w := wr) (a := ⟨b, j, none⟩) (hFO b (by have := unhide HWS; omega)), fun j => World.frozen?_of_block (w := wr) (a := ⟨b, j, none⟩) (hFO b (by have := unhide HWS; omega))⟩) (by have := unhide HWS; omega) (by omega), (unhide HWR).trans hFB⟩
end Go.Proofs.YtffabnmgcicpiaaGreat
