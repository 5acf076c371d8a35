/- Plain facts for the law on TypeFind: weights, and what is kept of its answers in memory; TypeFind, both sides. No conditions but those that each names. -/
import Derived.Test.YtkiaidjkhhljhaaNg
import Derived.Test.YtkiaidjkhhljhaaNh
import Derived.Test.YtkiaidjkhhljhaaNi
import Derived.Test.YtkiaidjkhhljhaaMq
import Derived.Test.YtkiaidjkhhljhaaZe
import Derived.Test.YtkiaidjkhhljhaaZg
namespace Go.Proofs.Ytkiaidjkhhljhaa
open Go.RowKit Go.PlainAid

theorem sum_mem {α : Type} (g : α → Nat) : ∀ (l : List α) (x : α), x ∈ l → g x ≤ (l.map g).sum
  | [], _, h => by cases h
  | y :: t, x, h => by
    rw [List.map_cons, List.sum_cons]
    rcases List.mem_cons.1 h with rfl | h
    · omega
    · have := sum_mem g t x h; omega
theorem sm_bound {α : Type} (f g : α → Nat) (h : ∀ x, f x ≤ 7 + 7 * g x) : ∀ l : List α, sm f l ≤ 7 * (l.length + (l.map g).sum)
  | [] => by simp [sm]
  | y :: t => by
    have h1 := sm_bound f g h t
    have h2 := h y
    have e : sm f (y :: t) = f y + sm f t := by simp [sm]
    rw [e, List.map_cons, List.sum_cons, List.length_cons]
    omega
theorem mM_bound (m : TM) : mM m ≤ 7 * m.wt := by
  have h1 := sm_bound mF TF.wt (fun f => by
    have := nodes_wt f.body
    unfold mF TF.wt
    omega) m.funs
  have h2 := nodesL_wt m.main
  unfold mM TM.wt wtFuns
  omega
theorem mY_bound (l : List TY) : sm mY l ≤ 7 * (l.length + wtFaces l) := sm_bound mY TY.wt (fun y => by
  have h1 := sm_bound mS TS.wt (fun s => by unfold mS TS.wt; omega) y.sigs
  unfold mY TY.wt wtSigs
  omega) l
theorem funs_small {m : TM} (h : m.wt ≤ 1048576) : ∀ f ∈ m.funs, f.args.length ≤ 1048576 ∧ f.name.size ≤ 1048576 := fun f hf => by
  have h1 := sum_mem TF.wt m.funs f hf
  have e : f.wt = f.name.size + (f.args.length + wtArgs f.args) + f.body.wt := rfl
  unfold TM.wt wtFuns at h
  omega
theorem sigs_small {l : List TY} (h : l.length + wtFaces l ≤ 1048576) : ∀ y ∈ l, ∀ s ∈ y.sigs, s.args.length ≤ 1048576 ∧ s.name.size ≤ 1048576 := fun y hy s hs => by
  have h1 := sum_mem TY.wt l y hy
  have h2 := sum_mem TS.wt y.sigs s hs
  have e1 : y.wt = y.mod.size + (y.sigs.length + (y.sigs.map TS.wt).sum) := rfl
  have e2 : s.wt = s.name.size + s.args.length := rfl
  unfold wtFaces at h
  omega
theorem TypeFindI_any (lo h lo2 : Nat) (v : Value) (m : TM) (a : Option Addr) (cap : Nat) (ys : List TY) (md nm : ByteArray) (w : World) (hM : IsMod w lo w.heap.size h v m) (hwt : ∀ f ∈ m.funs, f.args.length ≤ 1048576 ∧ f.name.size ≤ 1048576)
    (hY : IsFaces (IsFace w lo2 w.heap.size) w lo2 w.heap.size a ys) (hyl : ys.length ≤ maxLen) (hys : ∀ y ∈ ys, ∀ s ∈ y.sigs, s.args.length ≤ 1048576 ∧ s.name.size ≤ 1048576) :
    Calls Try.prog 15 #[v, .slice a ys.length cap, .string md, .string nm] w fun r w' => FPost w (findSig m ys md nm) r w' := by
  cases hmd : (md.toList == []) with
  | true => exact TypeFindI_own lo h lo2 v m a cap ys md nm w hM hwt hY hmd
  | false => exact TypeFindI_other lo h lo2 v m a cap ys md nm w hM hY hyl hys hmd
theorem TypeFindS_any (lo h lo2 : Nat) (v : Value) (m : TM) (a : Option Addr) (cap : Nat) (ys : List TY) (md nm : ByteArray) (w : World) (hM : IsMod w lo w.heap.size h v m) (hwt : ∀ f ∈ m.funs, f.args.length ≤ 1048576 ∧ f.name.size ≤ 1048576)
    (hY : IsFaces (IsFace w lo2 w.heap.size) w lo2 w.heap.size a ys) (hyl : ys.length ≤ maxLen) (hys : ∀ y ∈ ys, ∀ s ∈ y.sigs, s.args.length ≤ 1048576 ∧ s.name.size ≤ 1048576) :
    Calls Try.prog 12 #[v, .slice a ys.length cap, .string md, .string nm] w fun r w' => FPost w (findSig m ys md nm) r w' := by
  cases hmd : (md.toList == []) with
  | true => exact TypeFindS_own lo h v m a cap ys md nm w hM hwt hmd
  | false => exact TypeFindS_other lo h lo2 v m a cap ys md nm w hM hY hyl hys hmd
theorem args_small {m : TM} {ys : List TY} {md nm : ByteArray} (hf : ∀ f ∈ m.funs, f.args.length ≤ 1048576 ∧ f.name.size ≤ 1048576) (hs : ∀ y ∈ ys, ∀ s ∈ y.sigs, s.args.length ≤ 1048576 ∧ s.name.size ≤ 1048576) : ((findSig m ys md nm).getD zS).args.length ≤ 1048576 ∧ ((findSig m ys md nm).getD zS).name.size ≤ 1048576 := by
  unfold findSig
  split
  · cases e : m.funs.find? (isF nm) with
    | none => exact ⟨Nat.zero_le _, Nat.zero_le _⟩
    | some f =>
      have := hf f (List.mem_of_find?_eq_some e)
      simpa [sigOf] using this
  · split
    · cases e : ys.find? (isMod md) with
      | none => exact ⟨Nat.zero_le _, Nat.zero_le _⟩
      | some y =>
        show (((y.sigs.find? (isS nm))).getD zS).args.length ≤ 1048576 ∧ (((y.sigs.find? (isS nm))).getD zS).name.size ≤ 1048576
        cases e2 : y.sigs.find? (isS nm) with
        | none => exact ⟨Nat.zero_le _, Nat.zero_le _⟩
        | some s => exact hs y (List.mem_of_find?_eq_some e) s (List.mem_of_find?_eq_some e2)
    · exact ⟨Nat.zero_le _, Nat.zero_le _⟩
theorem Mk.other {lo n : Nat} {w w' : World} (h : Mk lo n w w') {b : Nat} (hb : b < w.heap.size) (ho : b < lo ∨ n ≤ b) : w'.heap[b]? = w.heap[b]? := by
  rcases ho with ho | ho
  · exact h.low.block b ho
  · exact h.high b ho hb
theorem Blk.at {w w' : World} {B : Nat} {C : List Value} (h : Blk w B C) (hb : w'.heap[B]? = w.heap[B]?) : Blk w' B C :=
  ⟨fun i => (World.cell?_of_block (w := w) (a := ⟨B, i, none⟩) hb).trans (h.1 i), fun i => (World.frozen?_of_block (w := w) (a := ⟨B, i, none⟩) hb).trans (h.2 i)⟩
theorem OwnI.at {w w' : World} {lo n : Nat} {v : Value} {zs : List Int} (h : OwnI w lo n v zs) (hb : ∀ b, lo ≤ b → b < n → w'.heap[b]? = w.heap[b]?) : OwnI w' lo n v zs :=
  h.same (fun b h1 h2 => ⟨fun j => World.cell?_of_block (w := w) (a := ⟨b, j, none⟩) (hb b h1 h2), fun j => World.frozen?_of_block (w := w) (a := ⟨b, j, none⟩) (hb b h1 h2)⟩) (Nat.le_refl _) (Nat.le_refl _)
theorem OwnI.sig {w : World} {lo n : Nat} {v : Value} {zs : List Int} (h : OwnI w lo n v zs) (nm : ByteArray) (t : Int) (hn : n ≤ w.heap.size) (h1 : nm.size ≤ 1048576) (h2 : zs.length ≤ 1048576) : IsSig w lo w.heap.size (.agg #[.string nm, v, .int .i64 t]) ⟨nm, zs, t⟩ := by
  obtain ⟨a, cap, rfl, hI⟩ := h.ints
  exact ⟨a, cap, rfl, ⟨by unfold maxLen; dsimp only; omega, by unfold maxLen; dsimp only; omega⟩, hI.kept (Below.refl _ _) hn⟩
/-- What the law keeps in memory behind the two answers. -/
structure FS (W0 : World) (E X G l5 h5 l8 h8 : Nat) (cE cX cG : List Value) (v5 v8 : Value) (z5 z8 : List Int) (W : World) : Prop where
  base : Below W0.heap.size W0 W
  e : Blk W E cE
  x : Blk W X cX
  g : Blk W G cG
  o5 : OwnI W l5 h5 v5 z5
  o8 : OwnI W l8 h8 v8 z8
  szE : E < W.heap.size
  szX : X < W.heap.size
  szG : G < W.heap.size
  sz5 : h5 ≤ W.heap.size
  sz8 : h8 ≤ W.heap.size
theorem FS.move {W0 W W' : World} {E X G l5 h5 l8 h8 : Nat} {cE cX cG : List Value} {v5 v8 : Value} {z5 z8 : List Int} (h : FS W0 E X G l5 h5 l8 h8 cE cX cG v5 v8 z5 z8 W) (hb : Below W0.heap.size W W') (hE : W'.heap[E]? = W.heap[E]?) (hX : W'.heap[X]? = W.heap[X]?) (hG : W'.heap[G]? = W.heap[G]?)
    (h5' : ∀ b, l5 ≤ b → b < h5 → W'.heap[b]? = W.heap[b]?) (h8' : ∀ b, l8 ≤ b → b < h8 → W'.heap[b]? = W.heap[b]?) : FS W0 E X G l5 h5 l8 h8 cE cX cG v5 v8 z5 z8 W' := by
  have hs := hb.size
  exact ⟨h.base.trans hb, h.e.at hE, h.x.at hX, h.g.at hG, h.o5.at h5', h.o8.at h8', Nat.lt_of_lt_of_le h.szE hs, Nat.lt_of_lt_of_le h.szX hs, Nat.lt_of_lt_of_le h.szG hs, Nat.le_trans h.sz5 hs, Nat.le_trans h.sz8 hs⟩
theorem FS.kept {W0 W W' : World} {E X G l5 h5 l8 h8 : Nat} {cE cX cG : List Value} {v5 v8 : Value} {z5 z8 : List Int} (h : FS W0 E X G l5 h5 l8 h8 cE cX cG v5 v8 z5 z8 W) (hb : Below W.heap.size W W') : FS W0 E X G l5 h5 l8 h8 cE cX cG v5 v8 z5 z8 W' :=
  h.move (hb.mono h.base.size) (hb.block _ h.szE) (hb.block _ h.szX) (hb.block _ h.szG) (fun b _ h2 => hb.block b (Nat.lt_of_lt_of_le h2 h.sz5)) (fun b _ h2 => hb.block b (Nat.lt_of_lt_of_le h2 h.sz8))
theorem FS.mark {W0 W W' : World} {E X G l5 h5 l8 h8 lo n : Nat} {cE cX cG : List Value} {v5 v8 : Value} {z5 z8 : List Int} (h : FS W0 E X G l5 h5 l8 h8 cE cX cG v5 v8 z5 z8 W) (hm : Mk lo n W W') (h0 : W0.heap.size ≤ lo) (hE : E < lo) (hX : X < lo ∨ n ≤ X) (hG : n ≤ G) (g5 : h5 ≤ lo) (g8 : n ≤ l8) : FS W0 E X G l5 h5 l8 h8 cE cX cG v5 v8 z5 z8 W' :=
  h.move (hm.low.mono h0) (hm.other h.szE (.inl hE)) (hm.other h.szX hX) (hm.other h.szG (.inr hG)) (fun b _ h2 => hm.other (Nat.lt_of_lt_of_le h2 h.sz5) (.inl (by omega))) (fun b h1 h2 => hm.other (Nat.lt_of_lt_of_le h2 h.sz8) (.inr (by omega)))
end Go.Proofs.Ytkiaidjkhhljhaa
