/- The walks of markMeanVal and heldMeanVal on answers. Conditions: the row lies in a block of its own. -/
import Derived.Test.YtjnahhalgckggaaAq
import Derived.Test.YtjnahhalgckggaaAr
import Derived.Test.YtjnahhalgckggaaAc
namespace Go.Proofs.Ytjnahhalgckggaa
open Go.RowKit Go.PlainAid

set_option maxHeartbeats 1000000 in
theorem markIntS_own (lo n : Nat) (v : Value) (zs : List Int) (k0 : Nat) (w : World) (h : OwnI w lo n v zs) (hl : zs.length ≤ 1000000000000) (hk0 : k0 ≤ 9000000000000000) :
    Calls Try.prog 29 #[v, .int .i64 k0] w fun e w' => e = .returned (.int .i64 ((k0 + zs.length : Nat) : Int)) ∧ OwnI w' lo n v (marksI k0 zs.length) ∧ Below lo w w' ∧ w'.heap.size = w.heap.size ∧ ∀ b, n ≤ b → w'.heap[b]? = w.heap[b]? := by
  obtain ⟨a, cap, rfl, h⟩ := h

  have HW := hide h
  clear h
  go_enter Try.func29, Try.ntmps29
  go_wp2
  go_loopw [1, 5] (fun kk i wr => ∃ k : Nat, k ≤ zs.length ∧ i = .int .i64 k ∧ kk = .int .i64 ((k0 + k : Nat) : Int) ∧ Hid (Below lo w wr) ∧ Hid (wr.heap.size = w.heap.size) ∧ Hid (∀ b, a = some ⟨b, 0, none⟩ → (∀ j, wr.frozen? ⟨b, j, none⟩ = w.frozen? ⟨b, j, none⟩) ∧ (∀ j, j < k → wr.cell? ⟨b, j, none⟩ = some (.int .i64 ((k0 + j : Nat) : Int))) ∧ ∀ j, k ≤ j → wr.cell? ⟨b, j, none⟩ = w.cell? ⟨b, j, none⟩) ∧ Hid (∀ b, n ≤ b → wr.heap[b]? = w.heap[b]?)) (fun _ i _ => zs.length - (intOf i).toNat)
  case atStart => exact ⟨0, Nat.zero_le _, rfl, rfl, hide (Below.refl _ _), hide rfl, hide (fun b _ => ⟨fun _ => rfl, fun j hj => absurd hj (Nat.not_lt_zero _), fun j _ => rfl⟩), hide (fun _ _ => rfl)⟩
  case round =>
    obtain ⟨k, hk, rfl, rfl, HB, HS, HC, HG⟩ := hrel
    by_cases hp : k < zs.length
    · rcases unhide HW with h | ⟨b, rfl, h2, h3, h4, h5⟩
      · rw [h] at hp; simp at hp
      obtain ⟨g1, g2, g3⟩ := unhide HC b rfl
      have hc : wr.cell? ⟨b, k, none⟩ = some (.int .i64 (zs[k]'hp)) := (g3 k (Nat.le_refl _)).trans (h4 k hp)
      have hf : wr.frozen? ⟨b, k, none⟩ = false := (g1 k).trans (h5 k)
      generalize zs[k]'hp = x at hc
      have HG1 := hide g1
      have HG2 := hide g2
      have HG3 := hide g3
      have H2 := hide h2
      have H3 := hide h3
      have HCC := hide hc
      clear g1 g2 g3 h4 h5
      go_wp2
      go_roundw
      case rel =>
        refine ⟨k + 1, by omega, by go_num, by go_num, hide ((unhide HB).setCell (p := ⟨b, k, none⟩) (unhide H2) _), hide (by simpa [World.setCell] using unhide HS), hide (fun b' e => ?_), hide (fun b' hb' => (Below.heap_setCell _ _ _ _ (by have := unhide H3; simp; omega)).trans (unhide HG b' hb'))⟩
        cases e
        refine ⟨fun j => by rw [World.frozen?_setCell]; exact unhide HG1 j, fun j hj => ?_, fun j hj => ?_⟩
        · by_cases e : j = k
          · subst e
            exact cell_same _ _ _ _ (by rw [unhide HCC]; rfl)
          · rw [cell_other _ _ _ _ _ (by omega)]
            exact unhide HG2 j (by omega)
        · rw [cell_other _ _ _ _ _ (by omega)]
          exact unhide HG3 j (by omega)
      case measure => simp [intOf]; omega
    · have hk' : k = zs.length := by omega
      subst hk'
      have HR : Hid (OwnI wr lo n (.slice a zs.length cap) (marksI k0 zs.length)) := hide (by
        refine ⟨a, cap, by rw [marksI_len], ?_⟩
        rcases unhide HW with h | ⟨b, rfl, h2, h3, h4, h5⟩
        · exact .inl (by rw [h]; rfl)
        · obtain ⟨g1, g2, g3⟩ := unhide HC b rfl
          exact .inr ⟨b, rfl, h2, h3, fun j hj => by rw [marksI_at]; exact g2 j (by rw [marksI_len] at hj; exact hj), fun j => (g1 j).trans (h5 j)⟩)
      go_wp2
      go_ret
      exact ⟨rfl, unhide HR, unhide HB, unhide HS, unhide HG⟩


set_option maxHeartbeats 1000000 in
theorem markMeanVal_any (lo n : Nat) (kd nu : Int) (v : Value) (zs : List Int) (k0 : Nat) (w : World) (h : OwnI w lo n v zs) (hn : n ≤ w.heap.size) (hlo : lo ≤ w.heap.size) (hl : zs.length ≤ 1000000000000) (hk0 : k0 ≤ 9000000000000000) :
    Calls Try.prog 14 #[.agg #[.int .i64 kd, .int .i64 nu, v], .int .i64 k0] w fun e w' => e = .returned (.int .i64 ((k0 + zs.length : Nat) : Int)) ∧ OwnI w' lo n v (marksI k0 zs.length) ∧ Below lo w w' ∧ w.heap.size ≤ w'.heap.size ∧ ∀ b, n ≤ b → b < w.heap.size → w'.heap[b]? = w.heap[b]? := by
  obtain ⟨a, cap, rfl⟩ := h.form
  have HM := hide (markIntS_own lo n (.slice a zs.length cap) zs k0 (w.alloc (.cells #[.int .i64 kd, .int .i64 nu, .slice a zs.length cap] 28)) (h.same (fun b _ hb => ⟨fun j => (below_new w _).cell (p := ⟨b, j, none⟩) (Nat.lt_of_lt_of_le hb hn), fun j => (below_new w _).frozen (p := ⟨b, j, none⟩) (Nat.lt_of_lt_of_le hb hn)⟩) (Nat.le_refl _) (Nat.le_refl _)) hl hk0)
  have HLO := hide hlo
  obtain ⟨Z, hZ⟩ : ∃ Z, zs.length = Z := ⟨_, rfl⟩
  rw [hZ] at HM hl ⊢
  clear h hZ hn hlo
  go_enter Try.func14, Try.ntmps14
  go_wp2_with fail
  refine (unhide HM).mono ?_
  rintro r w2 ⟨rfl, h1, h2, h3, h4⟩
  have H := hide (And.intro h1 (And.intro h2 (And.intro h3 h4)))
  clear h1 h2 h3 h4
  go_wp2
  go_ret
  obtain ⟨h1, h2, h3, h4⟩ := unhide H
  refine ⟨rfl, h1, ((below_new w _).mono (unhide HLO)).trans h2, by rw [h3]; simp, fun b hb hbn => (h4 b hb).trans ((below_new w _).block b hbn)⟩

set_option maxHeartbeats 1000000 in
theorem heldMeanVal_any (lo n : Nat) (kd nu : Int) (v : Value) (k0 m : Nat) (w : World) (h : OwnI w lo n v (marksI k0 m)) (hn : n ≤ w.heap.size) (hl : m ≤ 1000000000000) (hk0 : k0 ≤ 9000000000000000) :
    Calls Try.prog 15 #[.agg #[.int .i64 kd, .int .i64 nu, v], .int .i64 k0] w fun e w' => e = .returned (.int .i64 ((k0 + m : Nat) : Int)) ∧ Below w.heap.size w w' := by
  obtain ⟨a, cap, rfl⟩ := h.form
  rw [marksI_len] at h ⊢
  have HM := hide (heldIntS_any lo n (.slice a m cap) k0 m (w.alloc (.cells #[.int .i64 kd, .int .i64 nu, .slice a m cap] 28)) (h.same (fun b _ hb => ⟨fun j => (below_new w _).cell (p := ⟨b, j, none⟩) (Nat.lt_of_lt_of_le hb hn), fun j => (below_new w _).frozen (p := ⟨b, j, none⟩) (Nat.lt_of_lt_of_le hb hn)⟩) (Nat.le_refl _) (Nat.le_refl _)) hl hk0)
  clear h hn
  go_enter Try.func15, Try.ntmps15
  go_wp2_with fail
  refine (unhide HM).mono ?_
  rintro r w2 ⟨rfl, rfl⟩
  go_wp2
  go_ret
  exact ⟨rfl, below_new _ _⟩
theorem meanR_row (n : Nat) (xs : List MV) (h : ∀ x ∈ xs, x.row.length ≤ 1048576) : (meanR n xs).1.row.length ≤ 1048576 := by
  have hx : (xs.getD 0 zV).row.length ≤ 1048576 := by
    rcases xs with _ | ⟨x, t⟩
    · simp [zV]
    · simpa [List.getD] using h x (by simp)
  unfold meanR
  split
  · unfold primR
    dsimp only
    repeat' split
    all_goals first
      | (simp; done)
      | (dsimp only; rw [List.length_set]; exact hx)
      | (dsimp only; rw [List.length_append]; omega)
  · simp
end Go.Proofs.Ytjnahhalgckggaa
