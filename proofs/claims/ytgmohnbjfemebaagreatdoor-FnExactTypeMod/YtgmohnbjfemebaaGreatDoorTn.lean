/- The walk of toTreeFun. No conditions. -/
import Derived.Test.YtgmohnbjfemebaaGreatDoorTm
namespace Go.Proofs.YtgmohnbjfemebaaGreatDoor
open Go.RowKit Go.PlainAid

/-- A block that holds these cells, none of them frozen. -/
def Blk (w : World) (B : Nat) (C : List Value) : Prop := (∀ i, w.cell? ⟨B, i, none⟩ = C[i]?) ∧ ∀ i, w.frozen? ⟨B, i, none⟩ = false
theorem Blk.new (w : World) (C : List Value) (t : TypeId) : Blk (w.alloc (.cells C.toArray t)) w.heap.size C := ⟨fun i => by simp, fun i => new_frozen _ _ _ _⟩
theorem Blk.below {w w' : World} {B n : Nat} {C : List Value} (h : Blk w B C) (hb : Below n w w') (hB : B < n) : Blk w' B C :=
  ⟨fun i => (hb.cell (p := ⟨B, i, none⟩) hB).trans (h.1 i), fun i => (hb.frozen (p := ⟨B, i, none⟩) hB).trans (h.2 i)⟩
theorem Blk.old {w : World} {B : Nat} {C : List Value} (h : Blk w B C) (o : Obj) (hB : B < w.heap.size) : Blk (w.alloc o) B C := h.below ((Below.refl _ _).alloc (Nat.le_refl _) _) hB
theorem Blk.set {w : World} {B : Nat} {C : List Value} (h : Blk w B C) (i : Nat) (v : Value) (hi : i < C.length) : Blk (w.setCell ⟨B, i, none⟩ v) B (C.set i v) := by
  refine ⟨fun j => ?_, fun j => by rw [World.frozen?_setCell]; exact h.2 j⟩
  by_cases e : i = j
  · subst e
    rw [cell_same _ _ _ _ (by rw [h.1 i]; simp [hi]), List.getElem?_set_self hi]
  · rw [cell_other _ _ _ _ _ e, h.1 j, List.getElem?_set_ne e]
theorem Blk.other {w : World} {B : Nat} {C : List Value} (h : Blk w B C) (B' i : Nat) (v : Value) (hB : B' ≠ B) : Blk (w.setCell ⟨B', i, none⟩ v) B C :=
  ⟨fun j => (World.cell?_setCell_other _ ⟨B', i, none⟩ ⟨B, j, none⟩ _ (by simp <;> omega)).trans (h.1 j), fun j => by rw [World.frozen?_setCell]; exact h.2 j⟩

set_option maxHeartbeats 2000000 in
theorem toTreeFun_any (lo h : Nat) : ToFun lo h := by
  intro v f w hF ht
  obtain ⟨nm, pub, args, ty, body⟩ := f
  obtain ⟨aa, ca, b0, b1, b2, b3, b4, rfl, hz, ha, hE⟩ := hF
  dsimp only at hz ha hE ⊢
  have ht' : nm.size + (args.length + wtArgs args) + body.wt ≤ 1048576 := ht
  have HA := hide (fun (w' : World) (hb : Below w.heap.size w w') => toTreeArgS_of lo (toTreeArg_any lo) aa ca args w' (ha.kept hb hb.size) (by omega))
  have HE := hide (fun (w' : World) (hb : Below w.heap.size w w') => toTreeExpr_any lo h _ body w' (IsE.kept hb hb.size h _ _ hE) (by omega))
  have HZ := hide hz
  clear ha hE ht ht' hz
  go_enter Tryz.func96, Tryz.ntmps96
  go_wp2_with fail
  refine (unhide HA _ ((((Below.refl _ w).alloc (Nat.le_refl _) _).alloc (by simp) _).alloc (by simp; omega) _)).mono ?_
  rintro r w2 ⟨a', cap', rfl, hk2, hb2⟩
  have hB2 : Below w.heap.size w w2 := (((((Below.refl _ w).alloc (Nat.le_refl _) _).alloc (by simp) _).alloc (by simp; omega) _)).trans (hb2.mono (by simp; omega))
  rw [alloc_size, alloc_size, alloc_size] at hk2
  have n1 : Blk w2 w.heap.size [Value.string nm, Value.bool pub, Value.slice aa args.length ca, Value.int .i64 ty, b0, b1, b2, b3, b4] := (((Blk.new w [Value.string nm, Value.bool pub, Value.slice aa args.length ca, Value.int .i64 ty, b0, b1, b2, b3, b4] 172).old _ (by simp only [alloc_size]; omega)).old _ (by simp only [alloc_size]; omega)).below hb2 (by simp only [alloc_size]; omega)
  have n2 : Blk w2 (w.heap.size + 1) [Value.string ⟨#[]⟩, Value.bool false, Value.slice none 0 0, Value.int .i64 0, Value.int .i64 0, Value.int .i64 0, Value.string ⟨#[]⟩, Value.string ⟨#[]⟩, Value.slice none 0 0] := by
    have := ((Blk.new (w.alloc (.cells #[Value.string nm, Value.bool pub, Value.slice aa args.length ca, Value.int .i64 ty, b0, b1, b2, b3, b4] 172)) [Value.string ⟨#[]⟩, Value.bool false, Value.slice none 0 0, Value.int .i64 0, Value.int .i64 0, Value.int .i64 0, Value.string ⟨#[]⟩, Value.string ⟨#[]⟩, Value.slice none 0 0] 108).old (.cells #[.string nm, .bool pub, .slice none 0 0, .int .i64 0, .int .i64 0, .int .i64 0, .string ⟨#[]⟩, .string ⟨#[]⟩, .slice none 0 0] 108) (by simp only [alloc_size]; omega)).below hb2 (by simp only [alloc_size]; omega)
    rw [alloc_size] at this
    exact this
  have n3 : Blk w2 (w.heap.size + 1 + 1) [.string nm, .bool pub, .slice none 0 0, .int .i64 0, .int .i64 0, .int .i64 0, .string ⟨#[]⟩, .string ⟨#[]⟩, .slice none 0 0] := by
    have := (Blk.new ((w.alloc (.cells #[Value.string nm, Value.bool pub, Value.slice aa args.length ca, Value.int .i64 ty, b0, b1, b2, b3, b4] 172)).alloc (.cells #[Value.string ⟨#[]⟩, Value.bool false, Value.slice none 0 0, Value.int .i64 0, Value.int .i64 0, Value.int .i64 0, Value.string ⟨#[]⟩, Value.string ⟨#[]⟩, Value.slice none 0 0] 108)) [.string nm, .bool pub, .slice none 0 0, .int .i64 0, .int .i64 0, .int .i64 0, .string ⟨#[]⟩, .string ⟨#[]⟩, .slice none 0 0] 108).below hb2 (by simp only [alloc_size]; omega)
    rw [alloc_size, alloc_size] at this
    exact this
  have hS2 : w.heap.size + 3 ≤ w2.heap.size := by have := hb2.size; rw [alloc_size, alloc_size, alloc_size] at this; omega
  have p3 : w2.cell? ⟨w.heap.size, 3, none⟩ = some (Value.int .i64 ty) := n1.1 3
  have p4 : w2.cell? ⟨w.heap.size, 4, none⟩ = some (b0) := n1.1 4
  have p5 : w2.cell? ⟨w.heap.size, 5, none⟩ = some (b1) := n1.1 5
  have p6 : w2.cell? ⟨w.heap.size, 6, none⟩ = some (b2) := n1.1 6
  have p7 : w2.cell? ⟨w.heap.size, 7, none⟩ = some (b3) := n1.1 7
  have p8 : w2.cell? ⟨w.heap.size, 8, none⟩ = some (b4) := n1.1 8
  have o0 : w2.cell? ⟨w.heap.size + 1 + 1, 0, none⟩ = some (.string nm) := n3.1 0
  have o1 : w2.cell? ⟨w.heap.size + 1 + 1, 1, none⟩ = some (.bool pub) := n3.1 1
  have o2 : w2.cell? ⟨w.heap.size + 1 + 1, 2, none⟩ = some (.slice none 0 0) := n3.1 2
  have o3 : w2.cell? ⟨w.heap.size + 1 + 1, 3, none⟩ = some (.int .i64 0) := n3.1 3
  have o4 : w2.cell? ⟨w.heap.size + 1 + 1, 4, none⟩ = some (.int .i64 0) := n3.1 4
  have o5 : w2.cell? ⟨w.heap.size + 1 + 1, 5, none⟩ = some (.int .i64 0) := n3.1 5
  have o6 : w2.cell? ⟨w.heap.size + 1 + 1, 6, none⟩ = some (.string ⟨#[]⟩) := n3.1 6
  have o7 : w2.cell? ⟨w.heap.size + 1 + 1, 7, none⟩ = some (.string ⟨#[]⟩) := n3.1 7
  have o8 : w2.cell? ⟨w.heap.size + 1 + 1, 8, none⟩ = some (.slice none 0 0) := n3.1 8
  have g2 : w2.frozen? ⟨w.heap.size + 1 + 1, 2, none⟩ = false := n3.2 2
  have g3 : w2.frozen? ⟨w.heap.size + 1 + 1, 3, none⟩ = false := n3.2 3
  have N2 := hide n2
  have N3 := hide n3
  have HB2 := hide hB2
  have HK2 := hide hk2
  have HS2 := hide hS2
  clear n1 n2 n3 hb2 hB2 hk2 hS2
  go_wp2_with fail
  have hW : Below w.heap.size w ((w2.setCell ⟨w.heap.size + 1 + 1, 2, none⟩ (.slice a' args.length cap')).setCell ⟨w.heap.size + 1 + 1, 3, none⟩ (.int .i64 ty)) := ((unhide HB2).setCell (p := ⟨w.heap.size + 1 + 1, 2, none⟩) (by simp; omega) _).setCell (p := ⟨w.heap.size + 1 + 1, 3, none⟩) (by simp; omega) _
  have hW3 := ((unhide N3).set 2 (.slice a' args.length cap') (by simp)).set 3 (.int .i64 ty) (by simp)
  have hW2 := ((unhide N2).other (w.heap.size + 1 + 1) 2 (.slice a' args.length cap') (by omega)).other (w.heap.size + 1 + 1) 3 (.int .i64 ty) (by omega)
  have hWs : ((w2.setCell ⟨w.heap.size + 1 + 1, 2, none⟩ (.slice a' args.length cap')).setCell ⟨w.heap.size + 1 + 1, 3, none⟩ (.int .i64 ty)).heap.size = w2.heap.size := by simp [World.setCell]
  have hWo : Same (w.heap.size + 3) w2.heap.size w2 ((w2.setCell ⟨w.heap.size + 1 + 1, 2, none⟩ (.slice a' args.length cap')).setCell ⟨w.heap.size + 1 + 1, 3, none⟩ (.int .i64 ty)) := fun b h1 h2 => (Below.heap_setCell _ _ _ _ (by simp; omega)).trans (Below.heap_setCell _ _ _ _ (by simp; omega))
  generalize ((w2.setCell ⟨w.heap.size + 1 + 1, 2, none⟩ (.slice a' args.length cap')).setCell ⟨w.heap.size + 1 + 1, 3, none⟩ (.int .i64 ty)) = W' at hW hW3 hW2 hWs hWo ⊢
  refine (unhide HE W' hW).mono ?_
  rintro r w4 ⟨x0, x1, x2, x3, x4, rfl, hE4, hb4⟩
  obtain ⟨xk, xm, xn, xd, xa, xl, xc, rfl, rfl, rfl, rfl, rfl⟩ := hE4.form5
  have hs3 := unhide HS2
  have m3 : Blk w4 (w.heap.size + 1 + 1) [Value.string nm, Value.bool pub, Value.slice a' args.length cap', Value.int .i64 ty, Value.int .i64 0, Value.int .i64 0, Value.string ⟨#[]⟩, Value.string ⟨#[]⟩, Value.slice none 0 0] := Blk.below hW3 hb4 (by omega)
  have m2 : Blk w4 (w.heap.size + 1) [Value.string ⟨#[]⟩, Value.bool false, Value.slice none 0 0, Value.int .i64 0, Value.int .i64 0, Value.int .i64 0, Value.string ⟨#[]⟩, Value.string ⟨#[]⟩, Value.slice none 0 0] := Blk.below hW2 hb4 (by omega)
  clear p3 p4 p5 p6 p7 p8 o0 o1 o2 o3 o4 o5 o6 o7 o8 g2 g3 N2 N3 hW3 hW2
  have o0 : w4.cell? ⟨w.heap.size + 1 + 1, 0, none⟩ = some (Value.string nm) := m3.1 0
  have o1 : w4.cell? ⟨w.heap.size + 1 + 1, 1, none⟩ = some (Value.bool pub) := m3.1 1
  have o2 : w4.cell? ⟨w.heap.size + 1 + 1, 2, none⟩ = some (Value.slice a' args.length cap') := m3.1 2
  have o3 : w4.cell? ⟨w.heap.size + 1 + 1, 3, none⟩ = some (Value.int .i64 ty) := m3.1 3
  have o4 : w4.cell? ⟨w.heap.size + 1 + 1, 4, none⟩ = some (Value.int .i64 0) := m3.1 4
  have o5 : w4.cell? ⟨w.heap.size + 1 + 1, 5, none⟩ = some (Value.int .i64 0) := m3.1 5
  have o6 : w4.cell? ⟨w.heap.size + 1 + 1, 6, none⟩ = some (Value.string ⟨#[]⟩) := m3.1 6
  have o7 : w4.cell? ⟨w.heap.size + 1 + 1, 7, none⟩ = some (Value.string ⟨#[]⟩) := m3.1 7
  have o8 : w4.cell? ⟨w.heap.size + 1 + 1, 8, none⟩ = some (Value.slice none 0 0) := m3.1 8
  have g4 : w4.frozen? ⟨w.heap.size + 1 + 1, 4, none⟩ = false := m3.2 4
  have g5 : w4.frozen? ⟨w.heap.size + 1 + 1, 5, none⟩ = false := m3.2 5
  have g6 : w4.frozen? ⟨w.heap.size + 1 + 1, 6, none⟩ = false := m3.2 6
  have g7 : w4.frozen? ⟨w.heap.size + 1 + 1, 7, none⟩ = false := m3.2 7
  have g8 : w4.frozen? ⟨w.heap.size + 1 + 1, 8, none⟩ = false := m3.2 8
  have q0 : w4.cell? ⟨w.heap.size + 1, 0, none⟩ = some (Value.string ⟨#[]⟩) := m2.1 0
  have q1 : w4.cell? ⟨w.heap.size + 1, 1, none⟩ = some (Value.bool false) := m2.1 1
  have q2 : w4.cell? ⟨w.heap.size + 1, 2, none⟩ = some (Value.slice none 0 0) := m2.1 2
  have q3 : w4.cell? ⟨w.heap.size + 1, 3, none⟩ = some (Value.int .i64 0) := m2.1 3
  have q4 : w4.cell? ⟨w.heap.size + 1, 4, none⟩ = some (Value.int .i64 0) := m2.1 4
  have q5 : w4.cell? ⟨w.heap.size + 1, 5, none⟩ = some (Value.int .i64 0) := m2.1 5
  have q6 : w4.cell? ⟨w.heap.size + 1, 6, none⟩ = some (Value.string ⟨#[]⟩) := m2.1 6
  have q7 : w4.cell? ⟨w.heap.size + 1, 7, none⟩ = some (Value.string ⟨#[]⟩) := m2.1 7
  have q8 : w4.cell? ⟨w.heap.size + 1, 8, none⟩ = some (Value.slice none 0 0) := m2.1 8
  have f0 : w4.frozen? ⟨w.heap.size + 1, 0, none⟩ = false := m2.2 0
  have f1 : w4.frozen? ⟨w.heap.size + 1, 1, none⟩ = false := m2.2 1
  have f2 : w4.frozen? ⟨w.heap.size + 1, 2, none⟩ = false := m2.2 2
  have f3 : w4.frozen? ⟨w.heap.size + 1, 3, none⟩ = false := m2.2 3
  have f4 : w4.frozen? ⟨w.heap.size + 1, 4, none⟩ = false := m2.2 4
  have f5 : w4.frozen? ⟨w.heap.size + 1, 5, none⟩ = false := m2.2 5
  have f6 : w4.frozen? ⟨w.heap.size + 1, 6, none⟩ = false := m2.2 6
  have f7 : w4.frozen? ⟨w.heap.size + 1, 7, none⟩ = false := m2.2 7
  have f8 : w4.frozen? ⟨w.heap.size + 1, 8, none⟩ = false := m2.2 8
  have HF2 : Hid (Blk ((((((((((((((w4.setCell ⟨w.heap.size + 1 + 1, 4, none⟩ (Value.int .i64 xk)).setCell ⟨w.heap.size + 1 + 1, 5, none⟩ (Value.int .i64 xm)).setCell ⟨w.heap.size + 1 + 1, 6, none⟩ (Value.string xn)).setCell ⟨w.heap.size + 1 + 1, 7, none⟩ (Value.string xd)).setCell ⟨w.heap.size + 1 + 1, 8, none⟩ (Value.slice xa xl xc)).setCell ⟨w.heap.size + 1, 0, none⟩ (Value.string nm)).setCell ⟨w.heap.size + 1, 1, none⟩ (Value.bool pub)).setCell ⟨w.heap.size + 1, 2, none⟩ (Value.slice a' args.length cap')).setCell ⟨w.heap.size + 1, 3, none⟩ (Value.int .i64 ty)).setCell ⟨w.heap.size + 1, 4, none⟩ (Value.int .i64 xk)).setCell ⟨w.heap.size + 1, 5, none⟩ (Value.int .i64 xm)).setCell ⟨w.heap.size + 1, 6, none⟩ (Value.string xn)).setCell ⟨w.heap.size + 1, 7, none⟩ (Value.string xd)).setCell ⟨w.heap.size + 1, 8, none⟩ (Value.slice xa xl xc)) (w.heap.size + 1) [Value.string nm, Value.bool pub, Value.slice a' args.length cap', Value.int .i64 ty, Value.int .i64 xk, Value.int .i64 xm, Value.string xn, Value.string xd, Value.slice xa xl xc]) := hide ((((((((((((((m2.other (w.heap.size + 1 + 1) 4 (Value.int .i64 xk) (by omega)).other (w.heap.size + 1 + 1) 5 (Value.int .i64 xm) (by omega)).other (w.heap.size + 1 + 1) 6 (Value.string xn) (by omega)).other (w.heap.size + 1 + 1) 7 (Value.string xd) (by omega)).other (w.heap.size + 1 + 1) 8 (Value.slice xa xl xc) (by omega)).set 0 (Value.string nm) (by simp)).set 1 (Value.bool pub) (by simp)).set 2 (Value.slice a' args.length cap') (by simp)).set 3 (Value.int .i64 ty) (by simp)).set 4 (Value.int .i64 xk) (by simp)).set 5 (Value.int .i64 xm) (by simp)).set 6 (Value.string xn) (by simp)).set 7 (Value.string xd) (by simp)).set 8 (Value.slice xa xl xc) (by simp))
  have HFB : Hid (Below w.heap.size w4 ((((((((((((((w4.setCell ⟨w.heap.size + 1 + 1, 4, none⟩ (Value.int .i64 xk)).setCell ⟨w.heap.size + 1 + 1, 5, none⟩ (Value.int .i64 xm)).setCell ⟨w.heap.size + 1 + 1, 6, none⟩ (Value.string xn)).setCell ⟨w.heap.size + 1 + 1, 7, none⟩ (Value.string xd)).setCell ⟨w.heap.size + 1 + 1, 8, none⟩ (Value.slice xa xl xc)).setCell ⟨w.heap.size + 1, 0, none⟩ (Value.string nm)).setCell ⟨w.heap.size + 1, 1, none⟩ (Value.bool pub)).setCell ⟨w.heap.size + 1, 2, none⟩ (Value.slice a' args.length cap')).setCell ⟨w.heap.size + 1, 3, none⟩ (Value.int .i64 ty)).setCell ⟨w.heap.size + 1, 4, none⟩ (Value.int .i64 xk)).setCell ⟨w.heap.size + 1, 5, none⟩ (Value.int .i64 xm)).setCell ⟨w.heap.size + 1, 6, none⟩ (Value.string xn)).setCell ⟨w.heap.size + 1, 7, none⟩ (Value.string xd)).setCell ⟨w.heap.size + 1, 8, none⟩ (Value.slice xa xl xc))) := hide (((((((((((((((Below.refl w.heap.size w4).setCell (p := ⟨w.heap.size + 1 + 1, 4, none⟩) (by simp; omega) _).setCell (p := ⟨w.heap.size + 1 + 1, 5, none⟩) (by simp; omega) _).setCell (p := ⟨w.heap.size + 1 + 1, 6, none⟩) (by simp; omega) _).setCell (p := ⟨w.heap.size + 1 + 1, 7, none⟩) (by simp; omega) _).setCell (p := ⟨w.heap.size + 1 + 1, 8, none⟩) (by simp; omega) _).setCell (p := ⟨w.heap.size + 1, 0, none⟩) (by simp) _).setCell (p := ⟨w.heap.size + 1, 1, none⟩) (by simp) _).setCell (p := ⟨w.heap.size + 1, 2, none⟩) (by simp) _).setCell (p := ⟨w.heap.size + 1, 3, none⟩) (by simp) _).setCell (p := ⟨w.heap.size + 1, 4, none⟩) (by simp) _).setCell (p := ⟨w.heap.size + 1, 5, none⟩) (by simp) _).setCell (p := ⟨w.heap.size + 1, 6, none⟩) (by simp) _).setCell (p := ⟨w.heap.size + 1, 7, none⟩) (by simp) _).setCell (p := ⟨w.heap.size + 1, 8, none⟩) (by simp) _)
  have HFS : Hid (((((((((((((((w4.setCell ⟨w.heap.size + 1 + 1, 4, none⟩ (Value.int .i64 xk)).setCell ⟨w.heap.size + 1 + 1, 5, none⟩ (Value.int .i64 xm)).setCell ⟨w.heap.size + 1 + 1, 6, none⟩ (Value.string xn)).setCell ⟨w.heap.size + 1 + 1, 7, none⟩ (Value.string xd)).setCell ⟨w.heap.size + 1 + 1, 8, none⟩ (Value.slice xa xl xc)).setCell ⟨w.heap.size + 1, 0, none⟩ (Value.string nm)).setCell ⟨w.heap.size + 1, 1, none⟩ (Value.bool pub)).setCell ⟨w.heap.size + 1, 2, none⟩ (Value.slice a' args.length cap')).setCell ⟨w.heap.size + 1, 3, none⟩ (Value.int .i64 ty)).setCell ⟨w.heap.size + 1, 4, none⟩ (Value.int .i64 xk)).setCell ⟨w.heap.size + 1, 5, none⟩ (Value.int .i64 xm)).setCell ⟨w.heap.size + 1, 6, none⟩ (Value.string xn)).setCell ⟨w.heap.size + 1, 7, none⟩ (Value.string xd)).setCell ⟨w.heap.size + 1, 8, none⟩ (Value.slice xa xl xc)).heap.size = w4.heap.size) := hide (by simp [World.setCell])
  have HFO : Hid (Same (w.heap.size + 3) w4.heap.size w4 ((((((((((((((w4.setCell ⟨w.heap.size + 1 + 1, 4, none⟩ (Value.int .i64 xk)).setCell ⟨w.heap.size + 1 + 1, 5, none⟩ (Value.int .i64 xm)).setCell ⟨w.heap.size + 1 + 1, 6, none⟩ (Value.string xn)).setCell ⟨w.heap.size + 1 + 1, 7, none⟩ (Value.string xd)).setCell ⟨w.heap.size + 1 + 1, 8, none⟩ (Value.slice xa xl xc)).setCell ⟨w.heap.size + 1, 0, none⟩ (Value.string nm)).setCell ⟨w.heap.size + 1, 1, none⟩ (Value.bool pub)).setCell ⟨w.heap.size + 1, 2, none⟩ (Value.slice a' args.length cap')).setCell ⟨w.heap.size + 1, 3, none⟩ (Value.int .i64 ty)).setCell ⟨w.heap.size + 1, 4, none⟩ (Value.int .i64 xk)).setCell ⟨w.heap.size + 1, 5, none⟩ (Value.int .i64 xm)).setCell ⟨w.heap.size + 1, 6, none⟩ (Value.string xn)).setCell ⟨w.heap.size + 1, 7, none⟩ (Value.string xd)).setCell ⟨w.heap.size + 1, 8, none⟩ (Value.slice xa xl xc))) := hide (fun b h1 h2 => by rw [Below.heap_setCell _ _ _ _ (by simp; omega), Below.heap_setCell _ _ _ _ (by simp; omega), Below.heap_setCell _ _ _ _ (by simp; omega), Below.heap_setCell _ _ _ _ (by simp; omega), Below.heap_setCell _ _ _ _ (by simp; omega), Below.heap_setCell _ _ _ _ (by simp; omega), Below.heap_setCell _ _ _ _ (by simp; omega), Below.heap_setCell _ _ _ _ (by simp; omega), Below.heap_setCell _ _ _ _ (by simp; omega), Below.heap_setCell _ _ _ _ (by simp; omega), Below.heap_setCell _ _ _ _ (by simp; omega), Below.heap_setCell _ _ _ _ (by simp; omega), Below.heap_setCell _ _ _ _ (by simp; omega), Below.heap_setCell _ _ _ _ (by simp; omega)])
  have HB4 := hide (hW.trans (hb4.mono (by omega)))
  have HE4 := hide hE4
  have HBB := hide hb4
  have HWO := hide hWo
  have HWS := hide hWs
  clear m2 m3 hE4 hb4 hW hWo hWs hs3
  go_wp2
  obtain ⟨F, hF⟩ : ∃ F, F = ((((((((((((((w4.setCell ⟨w.heap.size + 1 + 1, 4, none⟩ (Value.int .i64 xk)).setCell ⟨w.heap.size + 1 + 1, 5, none⟩ (Value.int .i64 xm)).setCell ⟨w.heap.size + 1 + 1, 6, none⟩ (Value.string xn)).setCell ⟨w.heap.size + 1 + 1, 7, none⟩ (Value.string xd)).setCell ⟨w.heap.size + 1 + 1, 8, none⟩ (Value.slice xa xl xc)).setCell ⟨w.heap.size + 1, 0, none⟩ (Value.string nm)).setCell ⟨w.heap.size + 1, 1, none⟩ (Value.bool pub)).setCell ⟨w.heap.size + 1, 2, none⟩ (Value.slice a' args.length cap')).setCell ⟨w.heap.size + 1, 3, none⟩ (Value.int .i64 ty)).setCell ⟨w.heap.size + 1, 4, none⟩ (Value.int .i64 xk)).setCell ⟨w.heap.size + 1, 5, none⟩ (Value.int .i64 xm)).setCell ⟨w.heap.size + 1, 6, none⟩ (Value.string xn)).setCell ⟨w.heap.size + 1, 7, none⟩ (Value.string xd)).setCell ⟨w.heap.size + 1, 8, none⟩ (Value.slice xa xl xc)) := ⟨_, rfl⟩
  rw [← hF] at HF2 HFB HFS HFO ⊢
  have e := (unhide HF2).1
  have e0 : F.cell? ⟨w.heap.size + 1, 0, none⟩ = some (Value.string nm) := e 0
  have e1 : F.cell? ⟨w.heap.size + 1, 1, none⟩ = some (Value.bool pub) := e 1
  have e2 : F.cell? ⟨w.heap.size + 1, 2, none⟩ = some (Value.slice a' args.length cap') := e 2
  have e3 : F.cell? ⟨w.heap.size + 1, 3, none⟩ = some (Value.int .i64 ty) := e 3
  have e4 : F.cell? ⟨w.heap.size + 1, 4, none⟩ = some (Value.int .i64 xk) := e 4
  have e5 : F.cell? ⟨w.heap.size + 1, 5, none⟩ = some (Value.int .i64 xm) := e 5
  have e6 : F.cell? ⟨w.heap.size + 1, 6, none⟩ = some (Value.string xn) := e 6
  have e7 : F.cell? ⟨w.heap.size + 1, 7, none⟩ = some (Value.string xd) := e 7
  have e8 : F.cell? ⟨w.heap.size + 1, 8, none⟩ = some (Value.slice xa xl xc) := e 8
  refine bodyPost_ret (v := .agg #[Value.string nm, Value.bool pub, Value.slice a' args.length cap', Value.int .i64 ty, Value.int .i64 xk, Value.int .i64 xm, Value.string xn, Value.string xd, Value.slice xa xl xc]) (by simp [results, Tryz.results96, go_sem, e0, e1, e2, e3, e4, e5, e6, e7, e8]) rfl ?_
  refine ⟨_, _, _, _, _, _, _, _, _, rfl, ⟨a', cap', _, _, _, _, _, rfl, unhide HZ, ?_, ?_⟩, (unhide HB4).trans (unhide HFB)⟩
  · have k1 : Same (w.heap.size + 3) w2.heap.size w2 F := fun b h1 h2 => ((unhide HFO) b h1 (by have := (unhide HBB).size; have := unhide HWS; omega)).trans (((unhide HBB).block b (by have := unhide HWS; omega)).trans ((unhide HWO) b h1 h2))
    have k2 : w2.heap.size ≤ F.heap.size := by have := (unhide HBB).size; have := unhide HWS; have := unhide HFS; omega
    exact (unhide HK2).mono (fun v e he => IsArg.same k1 (by omega) k2 v e he) k1 (by omega) k2
  · exact IsE.same (fun b h1 h2 => (unhide HFO) b (by have := unhide HWS; have := unhide HS2; omega) h2) (by have := unhide HWS; have := unhide HS2; omega) (by have := unhide HFS; omega) h _ _ (unhide HE4)
end Go.Proofs.YtgmohnbjfemebaaGreatDoor
