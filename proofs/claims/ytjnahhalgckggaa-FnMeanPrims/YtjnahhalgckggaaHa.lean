/- Rows of numbers that a call made, and the walks of markIntS and heldIntS. Conditions: the row lies in a block of its own. -/
import Derived.Test.YtjnahhalgckggaaFb
namespace Go.Proofs.Ytjnahhalgckggaa
open Go.RowKit Go.PlainAid

/-- A value that is a row of numbers in a block of its own, from lo on and below n, that may be written. -/
def OwnI (w : World) (lo n : Nat) (v : Value) (zs : List Int) : Prop :=
  ∃ (a : Option Addr) (cap : Nat), v = .slice a zs.length cap ∧ (zs = [] ∨ ∃ b : Nat, a = some ⟨b, 0, none⟩ ∧ lo ≤ b ∧ b < n ∧ (∀ j (hj : j < zs.length), w.cell? ⟨b, j, none⟩ = some (.int .i64 zs[j])) ∧ ∀ j, w.frozen? ⟨b, j, none⟩ = false)
theorem OwnI.same {w w' : World} {lo n lo' n' : Nat} {v : Value} {zs : List Int} (h : OwnI w lo n v zs) (hb : ∀ b, lo ≤ b → b < n → (∀ j, w'.cell? ⟨b, j, none⟩ = w.cell? ⟨b, j, none⟩) ∧ ∀ j, w'.frozen? ⟨b, j, none⟩ = w.frozen? ⟨b, j, none⟩) (hl : lo' ≤ lo) (hn : n ≤ n') : OwnI w' lo' n' v zs := by
  obtain ⟨a, cap, hv, h⟩ := h
  refine ⟨a, cap, hv, ?_⟩
  rcases h with h | ⟨b, h1, h2, h3, h4, h5⟩
  · exact .inl h
  · exact .inr ⟨b, h1, by omega, by omega, fun j hj => ((hb b h2 h3).1 j).trans (h4 j hj), fun j => ((hb b h2 h3).2 j).trans (h5 j)⟩
theorem OwnI.kept {w w' : World} {lo n m : Nat} {v : Value} {zs : List Int} (h : OwnI w lo n v zs) (hb : Below n w w') (hm : n ≤ m) : OwnI w' lo m v zs :=
  h.same (fun b _ hbn => ⟨fun j => hb.cell (p := ⟨b, j, none⟩) hbn, fun j => hb.frozen (p := ⟨b, j, none⟩) hbn⟩) (Nat.le_refl _) hm
theorem OwnI.ints {w : World} {lo n : Nat} {v : Value} {zs : List Int} (h : OwnI w lo n v zs) : ∃ (a : Option Addr) (cap : Nat), v = .slice a zs.length cap ∧ IsInts w lo n a zs := by
  obtain ⟨a, cap, hv, h⟩ := h
  refine ⟨a, cap, hv, ?_⟩
  rcases h with h | ⟨b, h1, h2, h3, h4, h5⟩
  · exact .inl h
  · exact .inr ⟨b, 0, h1, h2, h3, fun j hj => by rw [Nat.zero_add]; exact h4 j hj⟩

/-- The marks from k on. -/
def marksI (k n : Nat) : List Int := (List.range n).map fun i => ((k + i : Nat) : Int)
theorem marksI_len (k n : Nat) : (marksI k n).length = n := by simp [marksI]
theorem marksI_at (k n j : Nat) (h : j < (marksI k n).length) : (marksI k n)[j] = ((k + j : Nat) : Int) := by simp [marksI]

set_option maxHeartbeats 1000000 in
theorem markIntS_any (lo : Nat) (v : Value) (zs : List Int) (k0 : Nat) (w : World) (h : OwnI w lo w.heap.size v zs) (hl : zs.length ≤ 1000000000000) (hk0 : k0 ≤ 9000000000000000) :
    Calls Try.prog 29 #[v, .int .i64 k0] w fun e w' => e = .returned (.int .i64 ((k0 + zs.length : Nat) : Int)) ∧ OwnI w' lo w.heap.size v (marksI k0 zs.length) ∧ Below lo w w' ∧ w'.heap.size = w.heap.size := by
  obtain ⟨a, cap, rfl, h⟩ := h

  have HW := hide h
  clear h
  go_enter Try.func29, Try.ntmps29
  go_wp2
  go_loopw [1, 5] (fun kk i wr => ∃ k : Nat, k ≤ zs.length ∧ i = .int .i64 k ∧ kk = .int .i64 ((k0 + k : Nat) : Int) ∧ Hid (Below lo w wr) ∧ Hid (wr.heap.size = w.heap.size) ∧ Hid (∀ b, a = some ⟨b, 0, none⟩ → (∀ j, wr.frozen? ⟨b, j, none⟩ = w.frozen? ⟨b, j, none⟩) ∧ (∀ j, j < k → wr.cell? ⟨b, j, none⟩ = some (.int .i64 ((k0 + j : Nat) : Int))) ∧ ∀ j, k ≤ j → wr.cell? ⟨b, j, none⟩ = w.cell? ⟨b, j, none⟩)) (fun _ i _ => zs.length - (intOf i).toNat)
  case atStart => exact ⟨0, Nat.zero_le _, rfl, rfl, hide (Below.refl _ _), hide rfl, hide (fun b _ => ⟨fun _ => rfl, fun j hj => absurd hj (Nat.not_lt_zero _), fun j _ => rfl⟩)⟩
  case round =>
    obtain ⟨k, hk, rfl, rfl, HB, HS, HC⟩ := hrel
    by_cases hp : k < zs.length
    · rcases unhide HW with h | ⟨b, rfl, h2, h3, h4, h5⟩
      · rw [h] at hp; simp at hp
      obtain ⟨g1, g2, g3⟩ := unhide HC b rfl
      have hc : wr.cell? ⟨b, k, none⟩ = some (.int .i64 (zs[k]'hp)) := (g3 k (Nat.le_refl _)).trans (h4 k hp)
      have hf : wr.frozen? ⟨b, k, none⟩ = false := (g1 k).trans (h5 k)
      generalize zs[k]'hp = x at hc
      have HG1 := hide g1
      have HG2 := hide g2
      have HG3 := hide g3
      have H2 := hide h2
      have HCC := hide hc
      clear g1 g2 g3 h4 h5
      go_wp2
      go_roundw
      case rel =>
        refine ⟨k + 1, by omega, by go_num, by go_num, hide ((unhide HB).setCell (p := ⟨b, k, none⟩) (unhide H2) _), hide (by simpa [World.setCell] using unhide HS), hide (fun b' e => ?_)⟩
        cases e
        refine ⟨fun j => by rw [World.frozen?_setCell]; exact unhide HG1 j, fun j hj => ?_, fun j hj => ?_⟩
        · by_cases e : j = k
          · subst e
            exact cell_same _ _ _ _ (by rw [unhide HCC]; rfl)
          · rw [cell_other _ _ _ _ _ (by omega)]
            exact unhide HG2 j (by omega)
        · rw [cell_other _ _ _ _ _ (by omega)]
          exact unhide HG3 j (by omega)
      case measure => simp [intOf]; omega
    · have hk' : k = zs.length := by omega
      subst hk'
      have HR : Hid (OwnI wr lo w.heap.size (.slice a zs.length cap) (marksI k0 zs.length)) := hide (by
        refine ⟨a, cap, by rw [marksI_len], ?_⟩
        rcases unhide HW with h | ⟨b, rfl, h2, h3, h4, h5⟩
        · exact .inl (by rw [h]; rfl)
        · obtain ⟨g1, g2, g3⟩ := unhide HC b rfl
          exact .inr ⟨b, rfl, h2, h3, fun j hj => by rw [marksI_at]; exact g2 j (by rw [marksI_len] at hj; exact hj), fun j => (g1 j).trans (h5 j)⟩)
      go_wp2
      go_ret
      exact ⟨rfl, unhide HR, unhide HB, unhide HS⟩

set_option maxHeartbeats 1000000 in
theorem heldIntS_any (lo n : Nat) (v : Value) (k0 m : Nat) (w : World) (h : OwnI w lo n v (marksI k0 m)) (hl : m ≤ 1000000000000) (hk0 : k0 ≤ 9000000000000000) :
    Calls Try.prog 30 #[v, .int .i64 k0] w fun e w' => e = .returned (.int .i64 ((k0 + m : Nat) : Int)) ∧ w' = w := by
  obtain ⟨a, cap, hv, h⟩ := h
  rw [marksI_len] at hv
  subst hv

  have HW := hide h
  clear h
  go_enter Try.func30, Try.ntmps30
  go_wp2
  go_loop [1, 5] (fun kk i => ∃ k : Nat, k ≤ m ∧ i = .int .i64 k ∧ kk = .int .i64 ((k0 + k : Nat) : Int)) (fun _ i => m - (intOf i).toNat)
  case atStart => exact ⟨0, Nat.zero_le _, rfl, rfl⟩
  case round =>
    obtain ⟨k, hk, rfl, rfl⟩ := hrel
    by_cases hp : k < m
    · rcases unhide HW with h | ⟨b, rfl, h2, h3, h4, h5⟩
      · have : (marksI k0 m).length = 0 := by rw [h]; rfl
        rw [marksI_len] at this
        omega
      have hc : w.cell? ⟨b, k, none⟩ = some (.int .i64 ((k0 + k : Nat) : Int)) := by
        rw [h4 k (by rw [marksI_len]; exact hp), marksI_at]
      have he : (((k0 + k : Nat) : Int) != ((k0 + k : Nat) : Int)) = false := by simp
      clear h4 h5
      go_wp2
      go_round
      case rel => exact ⟨k + 1, by omega, by go_num, by go_num⟩
      case measure => simp [intOf]; omega
    · have hk' : k = m := by omega
      subst hk'
      go_wp2
      go_ret
      exact ⟨rfl, rfl⟩
end Go.Proofs.Ytjnahhalgckggaa
