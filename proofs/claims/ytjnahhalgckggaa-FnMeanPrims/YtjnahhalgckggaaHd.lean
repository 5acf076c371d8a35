/- The walk of impl.TypePrim: the types of a primitive's operands and its own, in new memory. No conditions. -/
import Derived.Test.YtjnahhalgckggaaHb
namespace Go.Proofs.Ytjnahhalgckggaa
open Go.RowKit Go.PlainAid

theorem mem_prims (l : List UInt8) (h : l ∉ prims) : primN l = 0 := by
  unfold primN
  have : prims.findIdx? (fun p => p == l) = none := by
    rw [List.findIdx?_eq_none_iff]
    intro p hp
    rw [beq_eq_false_iff_ne]
    intro e
    exact h (e ▸ hp)
  rw [this]
theorem bytes_of {s : ByteArray} {l : List UInt8} (h : s.toList = l) : s = ⟨l.toArray⟩ := by
  subst h
  rw [ByteArray.toList_eq]



set_option maxHeartbeats 400000 in
theorem TypePrimI_0 (s : ByteArray) (w : World) (_c0 : (s.toList == [43]) = false) (_c1 : (s.toList == [45]) = false) (_c2 : (s.toList == [42]) = false) (_c3 : (s.toList == [47]) = false) (_c4 : (s.toList == [37]) = false) (_c5 : (s.toList == [60]) = false) (_c6 : (s.toList == [60, 61]) = false) (_c7 : (s.toList == [61]) = false) (_c8 : (s.toList == [110, 111, 116]) = false) (_c9 : (s.toList == [97, 116]) = false) (_c10 : (s.toList == [108, 101, 110]) = false) (_c11 : (s.toList == [112, 117, 116]) = false) (_c12 : (s.toList == [106, 111, 105, 110]) = false) (_c13 : (s.toList == [112, 114, 105, 110, 116]) = false) (_c14 : (s.toList == [97, 110, 100]) = false) (_c15 : (s.toList == [111, 114]) = false) : Calls Try.prog 60 #[.string s] w fun e w' => TPost 0 w e w' := by
  go_enter Try.func60, Try.ntmps60
  go_wp2
  go_ret2
  exact ⟨_, rfl, own_nil _ _ _, Below.refl _ _⟩

set_option maxHeartbeats 400000 in
theorem TypePrimI_1 (s : ByteArray) (w : World) (_c0 : (s.toList == [43]) = true) (_c1 : (s.toList == [45]) = false) (_c2 : (s.toList == [42]) = false) (_c3 : (s.toList == [47]) = false) (_c4 : (s.toList == [37]) = false) (_c5 : (s.toList == [60]) = false) (_c6 : (s.toList == [60, 61]) = false) (_c7 : (s.toList == [61]) = false) (_c8 : (s.toList == [110, 111, 116]) = false) (_c9 : (s.toList == [97, 116]) = false) (_c10 : (s.toList == [108, 101, 110]) = false) (_c11 : (s.toList == [112, 117, 116]) = false) (_c12 : (s.toList == [106, 111, 105, 110]) = false) (_c13 : (s.toList == [112, 114, 105, 110, 116]) = false) (_c14 : (s.toList == [97, 110, 100]) = false) (_c15 : (s.toList == [111, 114]) = false) : Calls Try.prog 60 #[.string s] w fun e w' => TPost 1 w e w' := by
  go_enter Try.func60, Try.ntmps60
  go_wp2
  go_ret2
  exact ⟨_, rfl, own_new w [1, 1] _ _ rfl, below_new _ _⟩

set_option maxHeartbeats 400000 in
theorem TypePrimI_2 (s : ByteArray) (w : World) (_c0 : (s.toList == [43]) = false) (_c1 : (s.toList == [45]) = true) (_c2 : (s.toList == [42]) = false) (_c3 : (s.toList == [47]) = false) (_c4 : (s.toList == [37]) = false) (_c5 : (s.toList == [60]) = false) (_c6 : (s.toList == [60, 61]) = false) (_c7 : (s.toList == [61]) = false) (_c8 : (s.toList == [110, 111, 116]) = false) (_c9 : (s.toList == [97, 116]) = false) (_c10 : (s.toList == [108, 101, 110]) = false) (_c11 : (s.toList == [112, 117, 116]) = false) (_c12 : (s.toList == [106, 111, 105, 110]) = false) (_c13 : (s.toList == [112, 114, 105, 110, 116]) = false) (_c14 : (s.toList == [97, 110, 100]) = false) (_c15 : (s.toList == [111, 114]) = false) : Calls Try.prog 60 #[.string s] w fun e w' => TPost 2 w e w' := by
  go_enter Try.func60, Try.ntmps60
  go_wp2
  go_ret2
  exact ⟨_, rfl, own_new w [1, 1] _ _ rfl, below_new _ _⟩

set_option maxHeartbeats 400000 in
theorem TypePrimI_3 (s : ByteArray) (w : World) (_c0 : (s.toList == [43]) = false) (_c1 : (s.toList == [45]) = false) (_c2 : (s.toList == [42]) = true) (_c3 : (s.toList == [47]) = false) (_c4 : (s.toList == [37]) = false) (_c5 : (s.toList == [60]) = false) (_c6 : (s.toList == [60, 61]) = false) (_c7 : (s.toList == [61]) = false) (_c8 : (s.toList == [110, 111, 116]) = false) (_c9 : (s.toList == [97, 116]) = false) (_c10 : (s.toList == [108, 101, 110]) = false) (_c11 : (s.toList == [112, 117, 116]) = false) (_c12 : (s.toList == [106, 111, 105, 110]) = false) (_c13 : (s.toList == [112, 114, 105, 110, 116]) = false) (_c14 : (s.toList == [97, 110, 100]) = false) (_c15 : (s.toList == [111, 114]) = false) : Calls Try.prog 60 #[.string s] w fun e w' => TPost 3 w e w' := by
  go_enter Try.func60, Try.ntmps60
  go_wp2
  go_ret2
  exact ⟨_, rfl, own_new w [1, 1] _ _ rfl, below_new _ _⟩

set_option maxHeartbeats 400000 in
theorem TypePrimI_4 (s : ByteArray) (w : World) (_c0 : (s.toList == [43]) = false) (_c1 : (s.toList == [45]) = false) (_c2 : (s.toList == [42]) = false) (_c3 : (s.toList == [47]) = true) (_c4 : (s.toList == [37]) = false) (_c5 : (s.toList == [60]) = false) (_c6 : (s.toList == [60, 61]) = false) (_c7 : (s.toList == [61]) = false) (_c8 : (s.toList == [110, 111, 116]) = false) (_c9 : (s.toList == [97, 116]) = false) (_c10 : (s.toList == [108, 101, 110]) = false) (_c11 : (s.toList == [112, 117, 116]) = false) (_c12 : (s.toList == [106, 111, 105, 110]) = false) (_c13 : (s.toList == [112, 114, 105, 110, 116]) = false) (_c14 : (s.toList == [97, 110, 100]) = false) (_c15 : (s.toList == [111, 114]) = false) : Calls Try.prog 60 #[.string s] w fun e w' => TPost 4 w e w' := by
  go_enter Try.func60, Try.ntmps60
  go_wp2
  go_ret2
  exact ⟨_, rfl, own_new w [1, 1] _ _ rfl, below_new _ _⟩

set_option maxHeartbeats 400000 in
theorem TypePrimI_5 (s : ByteArray) (w : World) (_c0 : (s.toList == [43]) = false) (_c1 : (s.toList == [45]) = false) (_c2 : (s.toList == [42]) = false) (_c3 : (s.toList == [47]) = false) (_c4 : (s.toList == [37]) = true) (_c5 : (s.toList == [60]) = false) (_c6 : (s.toList == [60, 61]) = false) (_c7 : (s.toList == [61]) = false) (_c8 : (s.toList == [110, 111, 116]) = false) (_c9 : (s.toList == [97, 116]) = false) (_c10 : (s.toList == [108, 101, 110]) = false) (_c11 : (s.toList == [112, 117, 116]) = false) (_c12 : (s.toList == [106, 111, 105, 110]) = false) (_c13 : (s.toList == [112, 114, 105, 110, 116]) = false) (_c14 : (s.toList == [97, 110, 100]) = false) (_c15 : (s.toList == [111, 114]) = false) : Calls Try.prog 60 #[.string s] w fun e w' => TPost 5 w e w' := by
  go_enter Try.func60, Try.ntmps60
  go_wp2
  go_ret2
  exact ⟨_, rfl, own_new w [1, 1] _ _ rfl, below_new _ _⟩

set_option maxHeartbeats 400000 in
theorem TypePrimI_6 (s : ByteArray) (w : World) (_c0 : (s.toList == [43]) = false) (_c1 : (s.toList == [45]) = false) (_c2 : (s.toList == [42]) = false) (_c3 : (s.toList == [47]) = false) (_c4 : (s.toList == [37]) = false) (_c5 : (s.toList == [60]) = true) (_c6 : (s.toList == [60, 61]) = false) (_c7 : (s.toList == [61]) = false) (_c8 : (s.toList == [110, 111, 116]) = false) (_c9 : (s.toList == [97, 116]) = false) (_c10 : (s.toList == [108, 101, 110]) = false) (_c11 : (s.toList == [112, 117, 116]) = false) (_c12 : (s.toList == [106, 111, 105, 110]) = false) (_c13 : (s.toList == [112, 114, 105, 110, 116]) = false) (_c14 : (s.toList == [97, 110, 100]) = false) (_c15 : (s.toList == [111, 114]) = false) : Calls Try.prog 60 #[.string s] w fun e w' => TPost 6 w e w' := by
  go_enter Try.func60, Try.ntmps60
  go_wp2
  go_ret2
  exact ⟨_, rfl, own_new w [1, 1] _ _ rfl, below_new _ _⟩

set_option maxHeartbeats 400000 in
theorem TypePrimI_7 (s : ByteArray) (w : World) (_c0 : (s.toList == [43]) = false) (_c1 : (s.toList == [45]) = false) (_c2 : (s.toList == [42]) = false) (_c3 : (s.toList == [47]) = false) (_c4 : (s.toList == [37]) = false) (_c5 : (s.toList == [60]) = false) (_c6 : (s.toList == [60, 61]) = true) (_c7 : (s.toList == [61]) = false) (_c8 : (s.toList == [110, 111, 116]) = false) (_c9 : (s.toList == [97, 116]) = false) (_c10 : (s.toList == [108, 101, 110]) = false) (_c11 : (s.toList == [112, 117, 116]) = false) (_c12 : (s.toList == [106, 111, 105, 110]) = false) (_c13 : (s.toList == [112, 114, 105, 110, 116]) = false) (_c14 : (s.toList == [97, 110, 100]) = false) (_c15 : (s.toList == [111, 114]) = false) : Calls Try.prog 60 #[.string s] w fun e w' => TPost 7 w e w' := by
  go_enter Try.func60, Try.ntmps60
  go_wp2
  go_ret2
  exact ⟨_, rfl, own_new w [1, 1] _ _ rfl, below_new _ _⟩

set_option maxHeartbeats 400000 in
theorem TypePrimI_8 (s : ByteArray) (w : World) (_c0 : (s.toList == [43]) = false) (_c1 : (s.toList == [45]) = false) (_c2 : (s.toList == [42]) = false) (_c3 : (s.toList == [47]) = false) (_c4 : (s.toList == [37]) = false) (_c5 : (s.toList == [60]) = false) (_c6 : (s.toList == [60, 61]) = false) (_c7 : (s.toList == [61]) = true) (_c8 : (s.toList == [110, 111, 116]) = false) (_c9 : (s.toList == [97, 116]) = false) (_c10 : (s.toList == [108, 101, 110]) = false) (_c11 : (s.toList == [112, 117, 116]) = false) (_c12 : (s.toList == [106, 111, 105, 110]) = false) (_c13 : (s.toList == [112, 114, 105, 110, 116]) = false) (_c14 : (s.toList == [97, 110, 100]) = false) (_c15 : (s.toList == [111, 114]) = false) : Calls Try.prog 60 #[.string s] w fun e w' => TPost 8 w e w' := by
  go_enter Try.func60, Try.ntmps60
  go_wp2
  go_ret2
  exact ⟨_, rfl, own_new w [1, 1] _ _ rfl, below_new _ _⟩

set_option maxHeartbeats 400000 in
theorem TypePrimI_9 (s : ByteArray) (w : World) (_c0 : (s.toList == [43]) = false) (_c1 : (s.toList == [45]) = false) (_c2 : (s.toList == [42]) = false) (_c3 : (s.toList == [47]) = false) (_c4 : (s.toList == [37]) = false) (_c5 : (s.toList == [60]) = false) (_c6 : (s.toList == [60, 61]) = false) (_c7 : (s.toList == [61]) = false) (_c8 : (s.toList == [110, 111, 116]) = true) (_c9 : (s.toList == [97, 116]) = false) (_c10 : (s.toList == [108, 101, 110]) = false) (_c11 : (s.toList == [112, 117, 116]) = false) (_c12 : (s.toList == [106, 111, 105, 110]) = false) (_c13 : (s.toList == [112, 114, 105, 110, 116]) = false) (_c14 : (s.toList == [97, 110, 100]) = false) (_c15 : (s.toList == [111, 114]) = false) : Calls Try.prog 60 #[.string s] w fun e w' => TPost 9 w e w' := by
  go_enter Try.func60, Try.ntmps60
  go_wp2
  go_ret2
  exact ⟨_, rfl, own_new w [2] _ _ rfl, below_new _ _⟩

set_option maxHeartbeats 400000 in
theorem TypePrimI_10 (s : ByteArray) (w : World) (_c0 : (s.toList == [43]) = false) (_c1 : (s.toList == [45]) = false) (_c2 : (s.toList == [42]) = false) (_c3 : (s.toList == [47]) = false) (_c4 : (s.toList == [37]) = false) (_c5 : (s.toList == [60]) = false) (_c6 : (s.toList == [60, 61]) = false) (_c7 : (s.toList == [61]) = false) (_c8 : (s.toList == [110, 111, 116]) = false) (_c9 : (s.toList == [97, 116]) = true) (_c10 : (s.toList == [108, 101, 110]) = false) (_c11 : (s.toList == [112, 117, 116]) = false) (_c12 : (s.toList == [106, 111, 105, 110]) = false) (_c13 : (s.toList == [112, 114, 105, 110, 116]) = false) (_c14 : (s.toList == [97, 110, 100]) = false) (_c15 : (s.toList == [111, 114]) = false) : Calls Try.prog 60 #[.string s] w fun e w' => TPost 10 w e w' := by
  go_enter Try.func60, Try.ntmps60
  go_wp2
  go_ret2
  exact ⟨_, rfl, own_new w [3, 1] _ _ rfl, below_new _ _⟩

set_option maxHeartbeats 400000 in
theorem TypePrimI_11 (s : ByteArray) (w : World) (_c0 : (s.toList == [43]) = false) (_c1 : (s.toList == [45]) = false) (_c2 : (s.toList == [42]) = false) (_c3 : (s.toList == [47]) = false) (_c4 : (s.toList == [37]) = false) (_c5 : (s.toList == [60]) = false) (_c6 : (s.toList == [60, 61]) = false) (_c7 : (s.toList == [61]) = false) (_c8 : (s.toList == [110, 111, 116]) = false) (_c9 : (s.toList == [97, 116]) = false) (_c10 : (s.toList == [108, 101, 110]) = true) (_c11 : (s.toList == [112, 117, 116]) = false) (_c12 : (s.toList == [106, 111, 105, 110]) = false) (_c13 : (s.toList == [112, 114, 105, 110, 116]) = false) (_c14 : (s.toList == [97, 110, 100]) = false) (_c15 : (s.toList == [111, 114]) = false) : Calls Try.prog 60 #[.string s] w fun e w' => TPost 11 w e w' := by
  go_enter Try.func60, Try.ntmps60
  go_wp2
  go_ret2
  exact ⟨_, rfl, own_new w [3] _ _ rfl, below_new _ _⟩

set_option maxHeartbeats 400000 in
theorem TypePrimI_12 (s : ByteArray) (w : World) (_c0 : (s.toList == [43]) = false) (_c1 : (s.toList == [45]) = false) (_c2 : (s.toList == [42]) = false) (_c3 : (s.toList == [47]) = false) (_c4 : (s.toList == [37]) = false) (_c5 : (s.toList == [60]) = false) (_c6 : (s.toList == [60, 61]) = false) (_c7 : (s.toList == [61]) = false) (_c8 : (s.toList == [110, 111, 116]) = false) (_c9 : (s.toList == [97, 116]) = false) (_c10 : (s.toList == [108, 101, 110]) = false) (_c11 : (s.toList == [112, 117, 116]) = true) (_c12 : (s.toList == [106, 111, 105, 110]) = false) (_c13 : (s.toList == [112, 114, 105, 110, 116]) = false) (_c14 : (s.toList == [97, 110, 100]) = false) (_c15 : (s.toList == [111, 114]) = false) : Calls Try.prog 60 #[.string s] w fun e w' => TPost 12 w e w' := by
  go_enter Try.func60, Try.ntmps60
  go_wp2
  go_ret2
  exact ⟨_, rfl, own_new w [3, 1, 1] _ _ rfl, below_new _ _⟩

set_option maxHeartbeats 400000 in
theorem TypePrimI_13 (s : ByteArray) (w : World) (_c0 : (s.toList == [43]) = false) (_c1 : (s.toList == [45]) = false) (_c2 : (s.toList == [42]) = false) (_c3 : (s.toList == [47]) = false) (_c4 : (s.toList == [37]) = false) (_c5 : (s.toList == [60]) = false) (_c6 : (s.toList == [60, 61]) = false) (_c7 : (s.toList == [61]) = false) (_c8 : (s.toList == [110, 111, 116]) = false) (_c9 : (s.toList == [97, 116]) = false) (_c10 : (s.toList == [108, 101, 110]) = false) (_c11 : (s.toList == [112, 117, 116]) = false) (_c12 : (s.toList == [106, 111, 105, 110]) = true) (_c13 : (s.toList == [112, 114, 105, 110, 116]) = false) (_c14 : (s.toList == [97, 110, 100]) = false) (_c15 : (s.toList == [111, 114]) = false) : Calls Try.prog 60 #[.string s] w fun e w' => TPost 13 w e w' := by
  go_enter Try.func60, Try.ntmps60
  go_wp2
  go_ret2
  exact ⟨_, rfl, own_new w [3, 3] _ _ rfl, below_new _ _⟩

set_option maxHeartbeats 400000 in
theorem TypePrimI_14 (s : ByteArray) (w : World) (_c0 : (s.toList == [43]) = false) (_c1 : (s.toList == [45]) = false) (_c2 : (s.toList == [42]) = false) (_c3 : (s.toList == [47]) = false) (_c4 : (s.toList == [37]) = false) (_c5 : (s.toList == [60]) = false) (_c6 : (s.toList == [60, 61]) = false) (_c7 : (s.toList == [61]) = false) (_c8 : (s.toList == [110, 111, 116]) = false) (_c9 : (s.toList == [97, 116]) = false) (_c10 : (s.toList == [108, 101, 110]) = false) (_c11 : (s.toList == [112, 117, 116]) = false) (_c12 : (s.toList == [106, 111, 105, 110]) = false) (_c13 : (s.toList == [112, 114, 105, 110, 116]) = true) (_c14 : (s.toList == [97, 110, 100]) = false) (_c15 : (s.toList == [111, 114]) = false) : Calls Try.prog 60 #[.string s] w fun e w' => TPost 14 w e w' := by
  go_enter Try.func60, Try.ntmps60
  go_wp2
  go_ret2
  exact ⟨_, rfl, own_new w [1] _ _ rfl, below_new _ _⟩

set_option maxHeartbeats 400000 in
theorem TypePrimI_15 (s : ByteArray) (w : World) (_c0 : (s.toList == [43]) = false) (_c1 : (s.toList == [45]) = false) (_c2 : (s.toList == [42]) = false) (_c3 : (s.toList == [47]) = false) (_c4 : (s.toList == [37]) = false) (_c5 : (s.toList == [60]) = false) (_c6 : (s.toList == [60, 61]) = false) (_c7 : (s.toList == [61]) = false) (_c8 : (s.toList == [110, 111, 116]) = false) (_c9 : (s.toList == [97, 116]) = false) (_c10 : (s.toList == [108, 101, 110]) = false) (_c11 : (s.toList == [112, 117, 116]) = false) (_c12 : (s.toList == [106, 111, 105, 110]) = false) (_c13 : (s.toList == [112, 114, 105, 110, 116]) = false) (_c14 : (s.toList == [97, 110, 100]) = true) (_c15 : (s.toList == [111, 114]) = false) : Calls Try.prog 60 #[.string s] w fun e w' => TPost 15 w e w' := by
  go_enter Try.func60, Try.ntmps60
  go_wp2
  go_ret2
  exact ⟨_, rfl, own_new w [2, 2] _ _ rfl, below_new _ _⟩

set_option maxHeartbeats 400000 in
theorem TypePrimI_16 (s : ByteArray) (w : World) (_c0 : (s.toList == [43]) = false) (_c1 : (s.toList == [45]) = false) (_c2 : (s.toList == [42]) = false) (_c3 : (s.toList == [47]) = false) (_c4 : (s.toList == [37]) = false) (_c5 : (s.toList == [60]) = false) (_c6 : (s.toList == [60, 61]) = false) (_c7 : (s.toList == [61]) = false) (_c8 : (s.toList == [110, 111, 116]) = false) (_c9 : (s.toList == [97, 116]) = false) (_c10 : (s.toList == [108, 101, 110]) = false) (_c11 : (s.toList == [112, 117, 116]) = false) (_c12 : (s.toList == [106, 111, 105, 110]) = false) (_c13 : (s.toList == [112, 114, 105, 110, 116]) = false) (_c14 : (s.toList == [97, 110, 100]) = false) (_c15 : (s.toList == [111, 114]) = true) : Calls Try.prog 60 #[.string s] w fun e w' => TPost 16 w e w' := by
  go_enter Try.func60, Try.ntmps60
  go_wp2
  go_ret2
  exact ⟨_, rfl, own_new w [2, 2] _ _ rfl, below_new _ _⟩

theorem TypePrimI_any (s : ByteArray) (w : World) : Calls Try.prog 60 #[.string s] w fun e w' => TPost (primN s.toList) w e w' := by
  by_cases h : s.toList ∈ prims
  · unfold prims at h
    simp only [List.mem_cons, List.not_mem_nil, or_false] at h
    rcases h with h | h | h | h | h | h | h | h | h | h | h | h | h | h | h | h
    · have hn : primN s.toList = 1 := by rw [h]; decide
      rw [hn]
      exact TypePrimI_1 s w (by rw [h]; decide) (by rw [h]; decide) (by rw [h]; decide) (by rw [h]; decide) (by rw [h]; decide) (by rw [h]; decide) (by rw [h]; decide) (by rw [h]; decide) (by rw [h]; decide) (by rw [h]; decide) (by rw [h]; decide) (by rw [h]; decide) (by rw [h]; decide) (by rw [h]; decide) (by rw [h]; decide) (by rw [h]; decide)
    · have hn : primN s.toList = 2 := by rw [h]; decide
      rw [hn]
      exact TypePrimI_2 s w (by rw [h]; decide) (by rw [h]; decide) (by rw [h]; decide) (by rw [h]; decide) (by rw [h]; decide) (by rw [h]; decide) (by rw [h]; decide) (by rw [h]; decide) (by rw [h]; decide) (by rw [h]; decide) (by rw [h]; decide) (by rw [h]; decide) (by rw [h]; decide) (by rw [h]; decide) (by rw [h]; decide) (by rw [h]; decide)
    · have hn : primN s.toList = 3 := by rw [h]; decide
      rw [hn]
      exact TypePrimI_3 s w (by rw [h]; decide) (by rw [h]; decide) (by rw [h]; decide) (by rw [h]; decide) (by rw [h]; decide) (by rw [h]; decide) (by rw [h]; decide) (by rw [h]; decide) (by rw [h]; decide) (by rw [h]; decide) (by rw [h]; decide) (by rw [h]; decide) (by rw [h]; decide) (by rw [h]; decide) (by rw [h]; decide) (by rw [h]; decide)
    · have hn : primN s.toList = 4 := by rw [h]; decide
      rw [hn]
      exact TypePrimI_4 s w (by rw [h]; decide) (by rw [h]; decide) (by rw [h]; decide) (by rw [h]; decide) (by rw [h]; decide) (by rw [h]; decide) (by rw [h]; decide) (by rw [h]; decide) (by rw [h]; decide) (by rw [h]; decide) (by rw [h]; decide) (by rw [h]; decide) (by rw [h]; decide) (by rw [h]; decide) (by rw [h]; decide) (by rw [h]; decide)
    · have hn : primN s.toList = 5 := by rw [h]; decide
      rw [hn]
      exact TypePrimI_5 s w (by rw [h]; decide) (by rw [h]; decide) (by rw [h]; decide) (by rw [h]; decide) (by rw [h]; decide) (by rw [h]; decide) (by rw [h]; decide) (by rw [h]; decide) (by rw [h]; decide) (by rw [h]; decide) (by rw [h]; decide) (by rw [h]; decide) (by rw [h]; decide) (by rw [h]; decide) (by rw [h]; decide) (by rw [h]; decide)
    · have hn : primN s.toList = 6 := by rw [h]; decide
      rw [hn]
      exact TypePrimI_6 s w (by rw [h]; decide) (by rw [h]; decide) (by rw [h]; decide) (by rw [h]; decide) (by rw [h]; decide) (by rw [h]; decide) (by rw [h]; decide) (by rw [h]; decide) (by rw [h]; decide) (by rw [h]; decide) (by rw [h]; decide) (by rw [h]; decide) (by rw [h]; decide) (by rw [h]; decide) (by rw [h]; decide) (by rw [h]; decide)
    · have hn : primN s.toList = 7 := by rw [h]; decide
      rw [hn]
      exact TypePrimI_7 s w (by rw [h]; decide) (by rw [h]; decide) (by rw [h]; decide) (by rw [h]; decide) (by rw [h]; decide) (by rw [h]; decide) (by rw [h]; decide) (by rw [h]; decide) (by rw [h]; decide) (by rw [h]; decide) (by rw [h]; decide) (by rw [h]; decide) (by rw [h]; decide) (by rw [h]; decide) (by rw [h]; decide) (by rw [h]; decide)
    · have hn : primN s.toList = 8 := by rw [h]; decide
      rw [hn]
      exact TypePrimI_8 s w (by rw [h]; decide) (by rw [h]; decide) (by rw [h]; decide) (by rw [h]; decide) (by rw [h]; decide) (by rw [h]; decide) (by rw [h]; decide) (by rw [h]; decide) (by rw [h]; decide) (by rw [h]; decide) (by rw [h]; decide) (by rw [h]; decide) (by rw [h]; decide) (by rw [h]; decide) (by rw [h]; decide) (by rw [h]; decide)
    · have hn : primN s.toList = 9 := by rw [h]; decide
      rw [hn]
      exact TypePrimI_9 s w (by rw [h]; decide) (by rw [h]; decide) (by rw [h]; decide) (by rw [h]; decide) (by rw [h]; decide) (by rw [h]; decide) (by rw [h]; decide) (by rw [h]; decide) (by rw [h]; decide) (by rw [h]; decide) (by rw [h]; decide) (by rw [h]; decide) (by rw [h]; decide) (by rw [h]; decide) (by rw [h]; decide) (by rw [h]; decide)
    · have hn : primN s.toList = 10 := by rw [h]; decide
      rw [hn]
      exact TypePrimI_10 s w (by rw [h]; decide) (by rw [h]; decide) (by rw [h]; decide) (by rw [h]; decide) (by rw [h]; decide) (by rw [h]; decide) (by rw [h]; decide) (by rw [h]; decide) (by rw [h]; decide) (by rw [h]; decide) (by rw [h]; decide) (by rw [h]; decide) (by rw [h]; decide) (by rw [h]; decide) (by rw [h]; decide) (by rw [h]; decide)
    · have hn : primN s.toList = 11 := by rw [h]; decide
      rw [hn]
      exact TypePrimI_11 s w (by rw [h]; decide) (by rw [h]; decide) (by rw [h]; decide) (by rw [h]; decide) (by rw [h]; decide) (by rw [h]; decide) (by rw [h]; decide) (by rw [h]; decide) (by rw [h]; decide) (by rw [h]; decide) (by rw [h]; decide) (by rw [h]; decide) (by rw [h]; decide) (by rw [h]; decide) (by rw [h]; decide) (by rw [h]; decide)
    · have hn : primN s.toList = 12 := by rw [h]; decide
      rw [hn]
      exact TypePrimI_12 s w (by rw [h]; decide) (by rw [h]; decide) (by rw [h]; decide) (by rw [h]; decide) (by rw [h]; decide) (by rw [h]; decide) (by rw [h]; decide) (by rw [h]; decide) (by rw [h]; decide) (by rw [h]; decide) (by rw [h]; decide) (by rw [h]; decide) (by rw [h]; decide) (by rw [h]; decide) (by rw [h]; decide) (by rw [h]; decide)
    · have hn : primN s.toList = 13 := by rw [h]; decide
      rw [hn]
      exact TypePrimI_13 s w (by rw [h]; decide) (by rw [h]; decide) (by rw [h]; decide) (by rw [h]; decide) (by rw [h]; decide) (by rw [h]; decide) (by rw [h]; decide) (by rw [h]; decide) (by rw [h]; decide) (by rw [h]; decide) (by rw [h]; decide) (by rw [h]; decide) (by rw [h]; decide) (by rw [h]; decide) (by rw [h]; decide) (by rw [h]; decide)
    · have hn : primN s.toList = 14 := by rw [h]; decide
      rw [hn]
      exact TypePrimI_14 s w (by rw [h]; decide) (by rw [h]; decide) (by rw [h]; decide) (by rw [h]; decide) (by rw [h]; decide) (by rw [h]; decide) (by rw [h]; decide) (by rw [h]; decide) (by rw [h]; decide) (by rw [h]; decide) (by rw [h]; decide) (by rw [h]; decide) (by rw [h]; decide) (by rw [h]; decide) (by rw [h]; decide) (by rw [h]; decide)
    · have hn : primN s.toList = 15 := by rw [h]; decide
      rw [hn]
      exact TypePrimI_15 s w (by rw [h]; decide) (by rw [h]; decide) (by rw [h]; decide) (by rw [h]; decide) (by rw [h]; decide) (by rw [h]; decide) (by rw [h]; decide) (by rw [h]; decide) (by rw [h]; decide) (by rw [h]; decide) (by rw [h]; decide) (by rw [h]; decide) (by rw [h]; decide) (by rw [h]; decide) (by rw [h]; decide) (by rw [h]; decide)
    · have hn : primN s.toList = 16 := by rw [h]; decide
      rw [hn]
      exact TypePrimI_16 s w (by rw [h]; decide) (by rw [h]; decide) (by rw [h]; decide) (by rw [h]; decide) (by rw [h]; decide) (by rw [h]; decide) (by rw [h]; decide) (by rw [h]; decide) (by rw [h]; decide) (by rw [h]; decide) (by rw [h]; decide) (by rw [h]; decide) (by rw [h]; decide) (by rw [h]; decide) (by rw [h]; decide) (by rw [h]; decide)
  · rw [mem_prims _ h]
    unfold prims at h
    simp only [List.mem_cons, List.not_mem_nil, or_false, not_or] at h
    obtain ⟨h0, h1, h2, h3, h4, h5, h6, h7, h8, h9, h10, h11, h12, h13, h14, h15⟩ := h
    exact TypePrimI_0 s w (beq_eq_false_iff_ne.2 h0) (beq_eq_false_iff_ne.2 h1) (beq_eq_false_iff_ne.2 h2) (beq_eq_false_iff_ne.2 h3) (beq_eq_false_iff_ne.2 h4) (beq_eq_false_iff_ne.2 h5) (beq_eq_false_iff_ne.2 h6) (beq_eq_false_iff_ne.2 h7) (beq_eq_false_iff_ne.2 h8) (beq_eq_false_iff_ne.2 h9) (beq_eq_false_iff_ne.2 h10) (beq_eq_false_iff_ne.2 h11) (beq_eq_false_iff_ne.2 h12) (beq_eq_false_iff_ne.2 h13) (beq_eq_false_iff_ne.2 h14) (beq_eq_false_iff_ne.2 h15)
end Go.Proofs.Ytjnahhalgckggaa
