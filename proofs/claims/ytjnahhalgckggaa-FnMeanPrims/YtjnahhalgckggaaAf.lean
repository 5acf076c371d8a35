/- Appending numbers to a row in a block of its own. Conditions: the rows are not too long. -/
import Derived.Test.YtjnahhalgckggaaHa
import Derived.Laws.AppendOwn
import Derived.Deep.AppendSrc
namespace Go.Proofs.Ytjnahhalgckggaa
open Go.RowKit Go.PlainAid

theorem own_of_row {w : World} {lo : Nat} {v : Value} {k : Nat} {zs : List Int} (h : w.ownsRow lo 3 1 v k (zs.map (Value.int .i64))) : OwnI w lo w.heap.size v zs := by
  obtain ⟨hl, h⟩ := h
  have hk : k = zs.length := by simpa using hl.symm
  subst hk
  rcases h with ⟨rfl, h0⟩ | ⟨g, cap, cur, rfl, hb, hg, hc, hm, hs, ht⟩
  · refine ⟨none, 0, by rw [h0], .inl (List.length_eq_zero_iff.1 h0)⟩
  · refine ⟨some ⟨g, 0, none⟩, cap, rfl, .inr ⟨g, rfl, hb, ?_, fun j hj => ?_, fun j => ?_⟩⟩
    · rcases Nat.lt_or_ge g w.heap.size with h | h
      · exact h
      · rw [Array.getElem?_eq_none h] at hg; cases hg
    · have : cur.toList[j]? = some (.int .i64 zs[j]) := by
        have e : (cur.toList.take (zs.length * 1))[j]? = some (.int .i64 zs[j]) := by rw [ht]; simp [hj]
        rwa [List.getElem?_take_of_lt (by omega)] at e
      rw [World.cell?]
      simp [hg, ← Array.getElem?_toList, this]
    · simp [World.frozen?, hg]

theorem appN (aa : Option Addr) (ca : Nat) (W : World) : (Builtin.append_ #[26, 26] 26 #[.slice none 0 0, .slice aa 0 ca]).run Try.prog W = .ok (.slice none 0 0) W := by
  obtain ⟨i0, hi, hz0, hz1, hz2⟩ := info_parts intinfo
  have hs : Src Try.prog i0.size 26 (.slice aa 0 ca) 0 [] W := by
    cases aa with
    | none => exact Src.ofNil W Try.underlying26 ca
    | some ad => exact Src.ofSlice W Try.underlying26 ad 0 ca [] (by simp) (fun j u hu => by simp at hu) (fun u hu => by cases hu)
  simp [Builtin.append_, run_underlying Try.underlying26, sizeOf, typeInfo, hi, hs.len, hs.cells]
/-- A row of numbers in a block of its own, that append makes. -/
def OwnR (w : World) (base : Nat) (v : Value) (zs : List Int) : Prop := w.ownsRow base 3 1 v zs.length (zs.map (Value.int .i64))
theorem OwnR.own {w : World} {base : Nat} {v : Value} {zs : List Int} (h : OwnR w base v zs) : OwnI w base w.heap.size v zs := own_of_row h
theorem OwnR.nil (w : World) (base : Nat) : OwnR w base (.slice none 0 0) [] := World.ownsRow_nil _ _ _ _
theorem OwnR.made (w : World) (base : Nat) (hb : base ≤ w.heap.size) : OwnR (w.alloc (.cells #[] 3)) base (.slice (some ⟨w.heap.size, 0, none⟩) 0 0) [] :=
  World.ownsRow_made w #[] 0 hb (by unfold maxLen; omega) (by simp)
theorem run_app_any (W : World) (base : Nat) (v : Value) (xs ys : List Int) (h : OwnR W base v xs) (hbase : base ≤ W.heap.size) (aa : Option Addr) (ca lo n : Nat) (hI : IsInts W lo n aa ys) (hl : xs.length + ys.length ≤ 2097152) :
    ∃ v' W', (Builtin.append_ #[26, 26] 26 #[v, .slice aa ys.length ca]).run Try.prog W = .ok v' W' ∧ OwnR W' base v' (xs ++ ys) ∧ W.grownBy W' v.ownBlock := by
  obtain ⟨i0, hi, hz0, hz1, hz2⟩ := info_parts intinfo
  have key : ∀ (a : Addr), (∀ j u, (ys.map (Value.int .i64))[j]? = some u → W.cell? (a.add j) = some u) → ∃ v' W', (Builtin.append_ #[26, 26] 26 #[v, .slice (some a) ys.length ca]).run Try.prog W = .ok v' W' ∧ OwnR W' base v' (xs ++ ys) ∧ W.grownBy W' v.ownBlock := by
    intro a hn
    obtain ⟨v', W', hr, h2, h3, _⟩ := run_append_own (P := Try.prog) W base 26 26 3 i0 (.int .i64 0) 1 8 Try.underlying26 hi hz0 hz1 hz2 rfl (by omega) v xs.length (xs.map (Value.int .i64)) h a ys.length ca (ys.map (Value.int .i64)) (by simp) hn (ints_oneCell .i64 ys) (by unfold maxLen; omega) (by omega) hbase
    refine ⟨v', W', hr, ?_, h3⟩
    unfold OwnR
    rw [List.length_append, List.map_append]
    exact h2
  rcases hI with rfl | ⟨b, off, rfl, hbl, hbn, hcs⟩
  · cases aa with
    | some a => exact key a (fun j u hu => by simp at hu)
    | none =>
      have hs : Src Try.prog i0.size 26 (.slice none 0 ca) 0 [] W := Src.ofNil W Try.underlying26 ca
      have hx : xs ++ [] = xs := List.append_nil _
      rw [hx]
      obtain ⟨hlen, h2⟩ := h
      rcases h2 with ⟨rfl, h0⟩ | ⟨g, cap, cur, rfl, hb, hg, hc, hm, hs2, ht⟩
      · refine ⟨_, _, appN none ca W, ⟨hlen, .inl ⟨rfl, h0⟩⟩, World.grownBy.refl _ _⟩
      · have := run_append_room_src (P := Try.prog) W 26 26 26 3 i0 Try.underlying26 hi g 0 xs.length cap (.slice none 0 ca) 0 [] hs (by omega) (fun j hj => by simp at hj) (fun j hj => by simp at hj)
        refine ⟨_, _, by simpa [World.setCells] using this, ⟨hlen, .inr ⟨g, cap, cur, rfl, hb, hg, hc, hm, hs2, ht⟩⟩, World.grownBy.refl _ _⟩
  · refine key _ (fun j u hu => ?_)
    rw [Addr.add_lit]
    rw [List.getElem?_map] at hu
    rcases Nat.lt_or_ge j ys.length with hj | hj
    · rw [List.getElem?_eq_getElem hj] at hu
      cases hu
      exact hcs j hj
    · rw [List.getElem?_eq_none hj] at hu; cases hu
theorem grown_below {w w' : World} {n : Nat} {v : Value} (h : w.grownBy w' v.ownBlock) (hn : n ≤ w.heap.size) (hv : ∀ k, v.ownBlock = some k → n ≤ k) : Below n w w' := (Below.refl _ _).grown h hn hv
theorem OwnR.block {w : World} {base : Nat} {v : Value} {zs : List Int} (h : OwnR w base v zs) : ∀ k, v.ownBlock = some k → base ≤ k := fun k hk => (h.lt k hk).1
theorem wpList_app_any {ops : Array Oper} {rest : List Oper} {o : Oper} {a : Act} {Q : Exit → Act → World → Prop} (w : World) (hgd : o.guard = none) (s x : Operand)
    (ho : o.op = .call { callee := .builtin .append, args := #[s, x], argTypes := #[26, 26] }) (hty : o.type = 26) (base : Nat) (v : Value) (xs : List Int) (hs : a.eval s = v) (hv : OwnR w base v xs) (hbase : base ≤ w.heap.size)
    (aa : Option Addr) (ca : Nat) (ys : List Int) (hx : a.eval x = .slice aa ys.length ca) (lo n : Nat) (hI : IsInts w lo n aa ys) (hl : xs.length + ys.length ≤ 2097152)
    (h : ∀ v' w', OwnR w' base v' (xs ++ ys) → w.grownBy w' v.ownBlock → wpList Try.prog ops Q rest (a.put o.dst v') w') : wpList Try.prog ops Q (o :: rest) a w :=
  wpList_plain hgd fun _ hK => by
    obtain ⟨v', w', hr, h2, h3⟩ := run_app_any w base v xs ys hv hbase aa ca lo n hI hl
    unfold Oper.wp execOp
    simp only [ho, hty, resolve, invoke, builtin, Sem.run_bind, Sem.run_pure, Result.andThen_ok, List.map_toArray, List.map_cons, List.map_nil, hs, hx, hr]
    exact hK _ _ (h v' w' h2 h3)
end Go.Proofs.Ytjnahhalgckggaa
