/- The walks of spec.TypePrim: the types of a primitive's operands and its own, in new memory. No conditions. -/
import Derived.Test.YtffabnmgcicpiaaGreatG3
import Derived.Test.YtffabnmgcicpiaaGreatG7
namespace Go.Proofs.YtffabnmgcicpiaaGreat
open Go.RowKit Go.PlainAid

/-- The types of the operands of a primitive, by its number. -/
def tpArgs (n : Nat) : List Int := if n = 0 then [] else if n ≤ 8 then [1, 1] else if n = 9 then [2] else if n = 10 then [3, 1] else if n = 11 then [3] else if n = 12 then [3, 1, 1] else if n = 13 then [3, 3] else if n = 14 then [1] else [2, 2]
/-- The type of a primitive, by its number. -/
def tpRes (n : Nat) : Int := if n = 0 then 0 else if n ≤ 5 then 1 else if n ≤ 8 then 2 else if n = 9 then 2 else if n = 10 then 1 else if n = 11 then 1 else if n = 12 then 3 else if n = 13 then 3 else if n = 14 then 1 else 2
theorem tpArgs_len (n : Nat) : (tpArgs n).length ≤ 3 := by
  unfold tpArgs
  repeat' split
  all_goals simp
theorem own_nil (w : World) (lo n : Nat) : OwnI w lo n (.slice none 0 0) [] := ⟨none, 0, rfl, .inl rfl⟩
theorem own_new (w : World) (zs : List Int) (t : TypeId) (n : Nat) (hn : n = zs.length) : OwnI (w.alloc (.cells (zs.map (Value.int .i64)).toArray t)) w.heap.size (w.alloc (.cells (zs.map (Value.int .i64)).toArray t)).heap.size (.slice (some ⟨w.heap.size, 0, none⟩) n n) zs := by
  subst hn
  refine ⟨_, _, rfl, .inr ⟨w.heap.size, rfl, Nat.le_refl _, by simp, fun j hj => ?_, fun j => new_frozen _ _ _ _⟩⟩
  rw [alloc_cell]
  simp [hj]
theorem below_new (w : World) (o : Obj) : Below w.heap.size w (w.alloc o) := (Below.refl _ _).alloc (Nat.le_refl _) _
abbrev TPost (n : Nat) (w : World) (e : Ending) (w' : World) : Prop := ∃ v : Value, e = .returned (.tuple #[v, .int .i64 (tpRes n)]) ∧ OwnI w' w.heap.size w'.heap.size v (tpArgs n) ∧ Below w.heap.size w w'

set_option maxHeartbeats 2000000 in
theorem TypePrimS_n (n : Nat) (s : ByteArray) (w : World) (hnn : primN s.toList = n) (hle : n ≤ 16) : Calls Tryz.prog 78 #[.string s] w fun e w' => TPost n w e w' := by
  have HP := hide (l2Prim_any s w)
  rw [hnn] at HP
  clear hnn
  go_enter Tryz.func78, Tryz.ntmps78
  go_wp2_with fail
  refine (unhide HP).mono ?_
  rintro r w2 ⟨rfl, hb⟩
  have HB := hide hb
  clear hb HP
  have hn : n = 0 ∨ n = 1 ∨ n = 2 ∨ n = 3 ∨ n = 4 ∨ n = 5 ∨ n = 6 ∨ n = 7 ∨ n = 8 ∨ n = 9 ∨ n = 10 ∨ n = 11 ∨ n = 12 ∨ n = 13 ∨ n = 14 ∨ n = 15 ∨ n = 16 := by omega
  clear hle
  rcases hn with rfl | rfl | rfl | rfl | rfl | rfl | rfl | rfl | rfl | rfl | rfl | rfl | rfl | rfl | rfl | rfl | rfl
  · go_wp2
    go_ret2
    exact ⟨_, rfl, own_nil _ _ _, unhide HB⟩
  · go_wp2
    go_ret2
    exact ⟨_, rfl, (own_new w2 [1, 1] _ _ rfl).same (fun _ _ _ => ⟨fun _ => rfl, fun _ => rfl⟩) (unhide HB).size (Nat.le_refl _), (unhide HB).trans ((below_new _ _).mono (unhide HB).size)⟩
  · go_wp2
    go_ret2
    exact ⟨_, rfl, (own_new w2 [1, 1] _ _ rfl).same (fun _ _ _ => ⟨fun _ => rfl, fun _ => rfl⟩) (unhide HB).size (Nat.le_refl _), (unhide HB).trans ((below_new _ _).mono (unhide HB).size)⟩
  · go_wp2
    go_ret2
    exact ⟨_, rfl, (own_new w2 [1, 1] _ _ rfl).same (fun _ _ _ => ⟨fun _ => rfl, fun _ => rfl⟩) (unhide HB).size (Nat.le_refl _), (unhide HB).trans ((below_new _ _).mono (unhide HB).size)⟩
  · go_wp2
    go_ret2
    exact ⟨_, rfl, (own_new w2 [1, 1] _ _ rfl).same (fun _ _ _ => ⟨fun _ => rfl, fun _ => rfl⟩) (unhide HB).size (Nat.le_refl _), (unhide HB).trans ((below_new _ _).mono (unhide HB).size)⟩
  · go_wp2
    go_ret2
    exact ⟨_, rfl, (own_new w2 [1, 1] _ _ rfl).same (fun _ _ _ => ⟨fun _ => rfl, fun _ => rfl⟩) (unhide HB).size (Nat.le_refl _), (unhide HB).trans ((below_new _ _).mono (unhide HB).size)⟩
  · go_wp2
    go_ret2
    exact ⟨_, rfl, (own_new w2 [1, 1] _ _ rfl).same (fun _ _ _ => ⟨fun _ => rfl, fun _ => rfl⟩) (unhide HB).size (Nat.le_refl _), (unhide HB).trans ((below_new _ _).mono (unhide HB).size)⟩
  · go_wp2
    go_ret2
    exact ⟨_, rfl, (own_new w2 [1, 1] _ _ rfl).same (fun _ _ _ => ⟨fun _ => rfl, fun _ => rfl⟩) (unhide HB).size (Nat.le_refl _), (unhide HB).trans ((below_new _ _).mono (unhide HB).size)⟩
  · go_wp2
    go_ret2
    exact ⟨_, rfl, (own_new w2 [1, 1] _ _ rfl).same (fun _ _ _ => ⟨fun _ => rfl, fun _ => rfl⟩) (unhide HB).size (Nat.le_refl _), (unhide HB).trans ((below_new _ _).mono (unhide HB).size)⟩
  · go_wp2
    go_ret2
    exact ⟨_, rfl, (own_new w2 [2] _ _ rfl).same (fun _ _ _ => ⟨fun _ => rfl, fun _ => rfl⟩) (unhide HB).size (Nat.le_refl _), (unhide HB).trans ((below_new _ _).mono (unhide HB).size)⟩
  · go_wp2
    go_ret2
    exact ⟨_, rfl, (own_new w2 [3, 1] _ _ rfl).same (fun _ _ _ => ⟨fun _ => rfl, fun _ => rfl⟩) (unhide HB).size (Nat.le_refl _), (unhide HB).trans ((below_new _ _).mono (unhide HB).size)⟩
  · go_wp2
    go_ret2
    exact ⟨_, rfl, (own_new w2 [3] _ _ rfl).same (fun _ _ _ => ⟨fun _ => rfl, fun _ => rfl⟩) (unhide HB).size (Nat.le_refl _), (unhide HB).trans ((below_new _ _).mono (unhide HB).size)⟩
  · go_wp2
    go_ret2
    exact ⟨_, rfl, (own_new w2 [3, 1, 1] _ _ rfl).same (fun _ _ _ => ⟨fun _ => rfl, fun _ => rfl⟩) (unhide HB).size (Nat.le_refl _), (unhide HB).trans ((below_new _ _).mono (unhide HB).size)⟩
  · go_wp2
    go_ret2
    exact ⟨_, rfl, (own_new w2 [3, 3] _ _ rfl).same (fun _ _ _ => ⟨fun _ => rfl, fun _ => rfl⟩) (unhide HB).size (Nat.le_refl _), (unhide HB).trans ((below_new _ _).mono (unhide HB).size)⟩
  · go_wp2
    go_ret2
    exact ⟨_, rfl, (own_new w2 [1] _ _ rfl).same (fun _ _ _ => ⟨fun _ => rfl, fun _ => rfl⟩) (unhide HB).size (Nat.le_refl _), (unhide HB).trans ((below_new _ _).mono (unhide HB).size)⟩
  · go_wp2
    go_ret2
    exact ⟨_, rfl, (own_new w2 [2, 2] _ _ rfl).same (fun _ _ _ => ⟨fun _ => rfl, fun _ => rfl⟩) (unhide HB).size (Nat.le_refl _), (unhide HB).trans ((below_new _ _).mono (unhide HB).size)⟩
  · go_wp2
    go_ret2
    exact ⟨_, rfl, (own_new w2 [2, 2] _ _ rfl).same (fun _ _ _ => ⟨fun _ => rfl, fun _ => rfl⟩) (unhide HB).size (Nat.le_refl _), (unhide HB).trans ((below_new _ _).mono (unhide HB).size)⟩
theorem TypePrimS_any (s : ByteArray) (w : World) : Calls Tryz.prog 78 #[.string s] w fun e w' => TPost (primN s.toList) w e w' := TypePrimS_n _ s w rfl (primN_le _)
end Go.Proofs.YtffabnmgcicpiaaGreat
