/- The walk of toTreeExpr: a tree is copied. Conditions: the tree can be read, and weighs at most 2^20. -/
import Derived.Test.YtgmohnbjfemebaaGreatDoorTd
namespace Go.Proofs.YtgmohnbjfemebaaGreatDoor
open Go.RowKit Go.PlainAid

theorem alloc_size (w : World) (o : Obj) : (w.alloc o).heap.size = w.heap.size + 1 := by simp
theorem new_frozen (X : World) (C : Array Value) (t : TypeId) (i : Nat) : (X.alloc (.cells C t)).frozen? ⟨X.heap.size, i, none⟩ = false := by simp
theorem third (w : World) (o1 o2 : Obj) (C : Array Value) (t : TypeId) (i : Nat) : (((w.alloc o1).alloc o2).alloc (.cells C t)).cell? ⟨w.heap.size + 1 + 1, i, none⟩ = C[i]? ∧ (((w.alloc o1).alloc o2).alloc (.cells C t)).frozen? ⟨w.heap.size + 1 + 1, i, none⟩ = false := by
  have e : w.heap.size + 1 + 1 = ((w.alloc o1).alloc o2).heap.size := by rw [alloc_size, alloc_size]
  rw [e]
  exact ⟨World.cell?_alloc_new .., new_frozen _ _ _ _⟩
theorem second (w : World) (o1 o3 : Obj) (C : Array Value) (t : TypeId) (i : Nat) : (((w.alloc o1).alloc (.cells C t)).alloc o3).cell? ⟨w.heap.size + 1, i, none⟩ = C[i]? ∧ (((w.alloc o1).alloc (.cells C t)).alloc o3).frozen? ⟨w.heap.size + 1, i, none⟩ = false := by
  have e : w.heap.size + 1 = (w.alloc o1).heap.size := by rw [alloc_size]
  have hb : Below ((w.alloc o1).alloc (.cells C t)).heap.size ((w.alloc o1).alloc (.cells C t)) (((w.alloc o1).alloc (.cells C t)).alloc o3) := (Below.refl _ _).alloc (Nat.le_refl _) _
  rw [e]
  have hl : (w.alloc o1).heap.size < ((w.alloc o1).alloc (.cells C t)).heap.size := by rw [alloc_size (w.alloc o1)]; exact Nat.lt_succ_self _
  refine ⟨(hb.cell (p := ⟨_, i, none⟩) hl).trans (World.cell?_alloc_new ..), (hb.frozen (p := ⟨_, i, none⟩) hl).trans (new_frozen _ _ _ _)⟩

set_option maxHeartbeats 1000000 in
theorem toTreeExpr_any (lo : Nat) : ∀ h, ToE lo h := by
  intro h
  induction h with
  | zero => intro v e w hE; exact hE.elim
  | succ h ih =>
    intro v e w hE ht
    obtain ⟨kd, m, nm, md, kids⟩ := e
    obtain ⟨a, cap, rfl, hs, hk⟩ := hE
    rw [TE.wt] at ht
    have HS := hide (fun (w' : World) (hb : Below w.heap.size w w') => toTreeExprS_of lo h ih a cap kids w' (hk.kept hb hb.size) (by omega))
    have HZ := hide hs
    clear hk ih ht hs
    go_enter Tryz.func21, Tryz.ntmps21
    go_wp2_with fail
    refine (unhide HS _ ((((Below.refl _ w).alloc (Nat.le_refl _) _).alloc (by simp) _).alloc (by simp; omega) _)).mono ?_
    rintro r w2 ⟨a', cap', rfl, hk2, hb2⟩
    have hB : Below w.heap.size w w2 := (((((Below.refl _ w).alloc (Nat.le_refl _) _).alloc (by simp) _).alloc (by simp; omega) _)).trans (hb2.mono (by simp; omega))
    have hsz : w.heap.size + 3 ≤ w2.heap.size := by have := hb2.size; simpa using this
    have h3 : ∀ i, w2.cell? ⟨w.heap.size + 1 + 1, i, none⟩ = (#[Value.int .i64 kd, .int .i64 m, .string nm, .string md, .slice none 0 0] : Array Value)[i]? ∧ w2.frozen? ⟨w.heap.size + 1 + 1, i, none⟩ = false := fun i =>
      ⟨(hb2.cell (p := ⟨w.heap.size + 1 + 1, i, none⟩) (by rw [alloc_size, alloc_size, alloc_size]; exact Nat.lt_succ_self _)).trans (third _ _ _ _ _ _).1, (hb2.frozen (p := ⟨w.heap.size + 1 + 1, i, none⟩) (by rw [alloc_size, alloc_size, alloc_size]; exact Nat.lt_succ_self _)).trans (third _ _ _ _ _ _).2⟩
    have h2 : ∀ i, w2.cell? ⟨w.heap.size + 1, i, none⟩ = (#[Value.int .i64 0, .int .i64 0, .string ⟨#[]⟩, .string ⟨#[]⟩, .slice none 0 0] : Array Value)[i]? ∧ w2.frozen? ⟨w.heap.size + 1, i, none⟩ = false := fun i =>
      ⟨(hb2.cell (p := ⟨w.heap.size + 1, i, none⟩) (by rw [alloc_size, alloc_size, alloc_size]; exact Nat.lt_succ_of_lt (Nat.lt_succ_self _))).trans (second _ _ _ _ _ _).1, (hb2.frozen (p := ⟨w.heap.size + 1, i, none⟩) (by rw [alloc_size, alloc_size, alloc_size]; exact Nat.lt_succ_of_lt (Nat.lt_succ_self _))).trans (second _ _ _ _ _ _).2⟩
    have p0 : w2.cell? ⟨w.heap.size + 1 + 1, 0, none⟩ = some (.int .i64 kd) := (h3 0).1
    have p1 : w2.cell? ⟨w.heap.size + 1 + 1, 1, none⟩ = some (.int .i64 m) := (h3 1).1
    have p2 : w2.cell? ⟨w.heap.size + 1 + 1, 2, none⟩ = some (.string nm) := (h3 2).1
    have p3 : w2.cell? ⟨w.heap.size + 1 + 1, 3, none⟩ = some (.string md) := (h3 3).1
    have p4 : w2.cell? ⟨w.heap.size + 1 + 1, 4, none⟩ = some (.slice none 0 0) := (h3 4).1
    have p5 := (h3 4).2
    have r0 : w2.cell? ⟨w.heap.size + 1, 0, none⟩ = some (.int .i64 0) := (h2 0).1
    have r1 : w2.cell? ⟨w.heap.size + 1, 1, none⟩ = some (.int .i64 0) := (h2 1).1
    have r2 : w2.cell? ⟨w.heap.size + 1, 2, none⟩ = some (.string ⟨#[]⟩) := (h2 2).1
    have r3 : w2.cell? ⟨w.heap.size + 1, 3, none⟩ = some (.string ⟨#[]⟩) := (h2 3).1
    have r4 : w2.cell? ⟨w.heap.size + 1, 4, none⟩ = some (.slice none 0 0) := (h2 4).1
    have f0 := (h2 0).2
    have f1 := (h2 1).2
    have f2 := (h2 2).2
    have f3 := (h2 3).2
    have f4 := (h2 4).2
    have HB := hide hB
    have HK := hide hk2
    have HSZ := hide hsz
    have HB2 := hide hb2
    clear h3 h2 hB hk2 hsz hb2
    go_wp2
    have hcs := put5_at (w2.setCell ⟨w.heap.size + 1 + 1, 4, none⟩ (.slice a' kids.length cap')) (w.heap.size + 1) 0 (.int .i64 kd) (.int .i64 m) (.string nm) (.string md) (.slice a' kids.length cap') (fun j h1 h2 => by
      have e : (w2.setCell ⟨w.heap.size + 1 + 1, 4, none⟩ (.slice a' kids.length cap')).cell? ⟨w.heap.size + 1, j, none⟩ = w2.cell? ⟨w.heap.size + 1, j, none⟩ := World.cell?_setCell_other _ ⟨w.heap.size + 1 + 1, 4, none⟩ ⟨w.heap.size + 1, j, none⟩ _ (by simp)
      rw [e]
      have hj : j = 0 ∨ j = 1 ∨ j = 2 ∨ j = 3 ∨ j = 4 := by omega
      rcases hj with rfl | rfl | rfl | rfl | rfl
      · exact ⟨_, r0⟩
      · exact ⟨_, r1⟩
      · exact ⟨_, r2⟩
      · exact ⟨_, r3⟩
      · exact ⟨_, r4⟩)
    have hb4 : Below w.heap.size w2 (put5 (w2.setCell ⟨w.heap.size + 1 + 1, 4, none⟩ (.slice a' kids.length cap')) (w.heap.size + 1) 0 (.int .i64 kd) (.int .i64 m) (.string nm) (.string md) (.slice a' kids.length cap')) := ((Below.refl _ _).setCell (p := ⟨w.heap.size + 1 + 1, 4, none⟩) (by simp; omega) _).trans (put5_below _ _ _ _ _ _ _ _ (by omega))
    have hs4 : Same (w.heap.size + 3) w2.heap.size w2 (put5 (w2.setCell ⟨w.heap.size + 1 + 1, 4, none⟩ (.slice a' kids.length cap')) (w.heap.size + 1) 0 (.int .i64 kd) (.int .i64 m) (.string nm) (.string md) (.slice a' kids.length cap')) := fun b h1 h2 => (put5_heap _ _ _ _ _ _ _ _ b (by omega)).trans (Below.heap_setCell _ ⟨w.heap.size + 1 + 1, 4, none⟩ _ _ (by simp; omega))
    have HCS := hide hcs
    simp only [Nat.zero_add] at hcs
    obtain ⟨e0, e1, e2, e3, e4⟩ := hcs
    refine bodyPost_ret (v := .agg #[.int .i64 kd, .int .i64 m, .string nm, .string md, .slice a' kids.length cap']) (by simp [results, Tryz.results21, go_sem, e0, e1, e2, e3, e4]) rfl ?_
    refine ⟨_, _, _, _, _, rfl, ⟨a', cap', rfl, unhide HZ, ?_⟩, (unhide HB).trans hb4⟩
    have hk3 := unhide HK
    rw [alloc_size, alloc_size, alloc_size] at hk3
    exact hk3.mono (IsE.same hs4 (by omega) hb4.size h) hs4 (by omega) hb4.size
end Go.Proofs.YtgmohnbjfemebaaGreatDoor
