/- Rows of words that a call made, and the walks of markStringS and heldStringS on them. Conditions: the row lies in a block of its own. -/
import Derived.Test.YtgdeehldpmfpgaaMk
import Derived.Test.YtgdeehldpmfpgaaQa
import Derived.Test.YtgdeehldpmfpgaaQk
import Derived.Deep.RegionWith
namespace Go.Proofs.Ytgdeehldpmfpgaa
open Go.RowKit Go.PlainAid

/-- A value that is a row of words in a block of its own, from lo on and below n, that may be written. -/
def OwnW (w : World) (lo n : Nat) (v : Value) (ws : List ByteArray) : Prop :=
  ∃ (a : Option Addr) (cap : Nat), v = .slice a ws.length cap ∧ (ws = [] ∨ ∃ b : Nat, a = some ⟨b, 0, none⟩ ∧ lo ≤ b ∧ b < n ∧ (∀ j (hj : j < ws.length), w.cell? ⟨b, j, none⟩ = some (.string ws[j])) ∧ ∀ j, w.frozen? ⟨b, j, none⟩ = false)
theorem OwnW.same {w w' : World} {lo n lo' n' : Nat} {v : Value} {ws : List ByteArray} (h : OwnW w lo n v ws) (hb : ∀ b, lo ≤ b → b < n → w'.heap[b]? = w.heap[b]?) (hl : lo' ≤ lo) (hn : n ≤ n') : OwnW w' lo' n' v ws := by
  obtain ⟨a, cap, hv, h⟩ := h
  refine ⟨a, cap, hv, ?_⟩
  rcases h with h | ⟨b, h1, h2, h3, h4, h5⟩
  · exact .inl h
  · exact .inr ⟨b, h1, by omega, by omega, fun j hj => (World.cell?_of_block (w := w) (a := ⟨b, j, none⟩) (hb b h2 h3)).trans (h4 j hj), fun j => (World.frozen?_of_block (w := w) (a := ⟨b, j, none⟩) (hb b h2 h3)).trans (h5 j)⟩
theorem OwnW.kept {w w' : World} {lo n m : Nat} {v : Value} {ws : List ByteArray} (h : OwnW w lo n v ws) (hb : Below n w w') (hm : n ≤ m) : OwnW w' lo m v ws :=
  h.same (fun b _ hbn => hb.block b hbn) (Nat.le_refl _) hm
theorem OwnW.wds {w : World} {lo n : Nat} {v : Value} {ws : List ByteArray} (h : OwnW w lo n v ws) : ∃ (a : Option Addr) (cap : Nat), v = .slice a ws.length cap ∧ IsWds w lo n a ws := by
  obtain ⟨a, cap, hv, h⟩ := h
  refine ⟨a, cap, hv, ?_⟩
  rcases h with h | ⟨b, h1, h2, h3, h4, h5⟩
  · exact .inl h
  · exact .inr ⟨b, 0, h1, h2, h3, fun j hj => by rw [Nat.zero_add]; exact h4 j hj⟩
theorem OwnW.row {W : World} {base lo : Nat} {v : Value} {ws : List ByteArray} (h : W.ownsRow base 9 1 v ws.length (ws.map Value.string)) (hb : lo ≤ base) : OwnW W lo W.heap.size v ws := by
  have h0 := h
  rcases h.2 with ⟨rfl, hx⟩ | ⟨g, cap, cur, rfl, hbg, hg, h3⟩
  · have hx' : ws = [] := List.eq_nil_of_length_eq_zero hx
    exact ⟨none, 0, by rw [hx']; rfl, .inl hx'⟩
  · have hlt := (h0.lt g rfl).2
    refine ⟨some ⟨g, 0, none⟩, cap, rfl, .inr ⟨g, rfl, Nat.le_trans hb hbg, hlt, fun j hj => ?_, fun j => ?_⟩⟩
    · rw [h0.cellAt j (by omega)]
      simp [hj]
    · exact h0.frozenAt j

/-- The marks from k on. -/
def marksW (k n : Nat) : List ByteArray := (List.range n).map fun i => mt (k + i)
theorem marksW_len (k n : Nat) : (marksW k n).length = n := by simp [marksW]
theorem marksW_at (k n j : Nat) (h : j < (marksW k n).length) : (marksW k n)[j] = mt (k + j) := by simp [marksW]

set_option maxHeartbeats 1000000 in
theorem markWdS_at (lo n : Nat) (v : Value) (ws : List ByteArray) (k0 : Nat) (w : World) (h : OwnW w lo n v ws) (hn : n ≤ w.heap.size) (hlo : lo ≤ n) (hl : ws.length ≤ 1000000) (h1 : 1 ≤ k0) (hk0 : k0 ≤ 1000000) :
    Calls Try.prog 26 #[v, .int .i64 k0] w fun e w' => e = .returned (.int .i64 ((k0 + ws.length : Nat) : Int)) ∧ OwnW w' lo n v (marksW k0 ws.length) ∧ Below lo w w' := by
  obtain ⟨a, cap, rfl, h⟩ := h
  have HW := hide h
  have HN := hide hn
  have HLO := hide hlo
  clear h hn hlo
  go_enter Try.func26, Try.ntmps26
  go_wp2
  go_loopw [1, 5] (fun kk i wr => ∃ k : Nat, k ≤ ws.length ∧ i = .int .i64 k ∧ kk = .int .i64 ((k0 + k : Nat) : Int) ∧ Hid (Below lo w wr) ∧ Hid (∀ b, a = some ⟨b, 0, none⟩ → (∀ j, wr.frozen? ⟨b, j, none⟩ = w.frozen? ⟨b, j, none⟩) ∧ (∀ j, j < k → wr.cell? ⟨b, j, none⟩ = some (.string (mt (k0 + j)))) ∧ ∀ j, k ≤ j → wr.cell? ⟨b, j, none⟩ = w.cell? ⟨b, j, none⟩)) (fun _ i _ => ws.length - (intOf i).toNat)
  case atStart => exact ⟨0, Nat.zero_le _, rfl, rfl, hide (Below.refl _ _), hide (fun b _ => ⟨fun _ => rfl, fun j hj => absurd hj (Nat.not_lt_zero _), fun j _ => rfl⟩)⟩
  case round =>
    obtain ⟨k, hk, rfl, rfl, HB, HC⟩ := hrel
    by_cases hp : k < ws.length
    · rcases unhide HW with h | ⟨b, rfl, h2, h3, h4, h5⟩
      · rw [h] at hp; simp at hp
      obtain ⟨g1, g2, g3⟩ := unhide HC b rfl
      have hbr : b < wr.heap.size := Nat.lt_of_lt_of_le h3 (Nat.le_trans (unhide HN) (unhide HB).size)
      have hc : wr.cell? ⟨b, k, none⟩ = some (.string (ws[k]'hp)) := (g3 k (Nat.le_refl _)).trans (h4 k hp)
      have hf : wr.frozen? ⟨b, k, none⟩ = false := (g1 k).trans (h5 k)
      generalize ws[k]'hp = x at hc
      have HG1 := hide g1
      have HG2 := hide g2
      have HG3 := hide g3
      have H2 := hide h2
      have HBR := hide hbr
      have HCC := hide hc
      have HFF := hide hf
      clear g1 g2 g3 h4 h5 hc hf hbr
      go_wp2_with fail
      refine (markText_any (k0 + k) (by omega) (by omega) _).mono ?_
      rintro r w1 ⟨rfl, hb1⟩
      have hc1 : w1.cell? ⟨b, k, none⟩ = some (.string x) := (hb1.cell (p := ⟨b, k, none⟩) (unhide HBR)).trans (unhide HCC)
      have hf1 : w1.frozen? ⟨b, k, none⟩ = false := (hb1.frozen (p := ⟨b, k, none⟩) (unhide HBR)).trans (unhide HFF)
      have HB1 := hide hb1
      have HC1 := hide hc1
      clear hb1
      go_wp2
      go_roundw
      case rel =>
        refine ⟨k + 1, by omega, by go_num, by go_num, hide (((unhide HB).trans ((unhide HB1).mono (by have := unhide H2; have := unhide HBR; omega))).setCell (p := ⟨b, k, none⟩) (unhide H2) _), hide (fun b' e => ?_)⟩
        cases e
        refine ⟨fun j => by rw [World.frozen?_setCell]; exact ((unhide HB1).frozen (p := ⟨b, j, none⟩) (unhide HBR)).trans (unhide HG1 j), fun j hj => ?_, fun j hj => ?_⟩
        · by_cases e : j = k
          · subst e
            exact cell_same _ _ _ _ (by rw [unhide HC1]; rfl)
          · rw [cell_other _ _ _ _ _ (by omega)]
            exact ((unhide HB1).cell (p := ⟨b, j, none⟩) (unhide HBR)).trans (unhide HG2 j (by omega))
        · rw [cell_other _ _ _ _ _ (by omega)]
          exact ((unhide HB1).cell (p := ⟨b, j, none⟩) (unhide HBR)).trans (unhide HG3 j (by omega))
      case measure => simp [intOf]; omega
    · have hk' : k = ws.length := by omega
      subst hk'
      have HR : Hid (OwnW wr lo n (.slice a ws.length cap) (marksW k0 ws.length)) := hide (by
        refine ⟨a, cap, by rw [marksW_len], ?_⟩
        rcases unhide HW with h | ⟨b, rfl, h2, h3, h4, h5⟩
        · exact .inl (by rw [h]; rfl)
        · obtain ⟨g1, g2, g3⟩ := unhide HC b rfl
          exact .inr ⟨b, rfl, h2, h3, fun j hj => by rw [marksW_at]; exact g2 j (by rw [marksW_len] at hj; exact hj), fun j => (g1 j).trans (h5 j)⟩)
      go_wp2
      go_ret
      exact ⟨rfl, unhide HR, unhide HB⟩

set_option maxHeartbeats 1000000 in
theorem heldWdS_at (lo n : Nat) (v : Value) (k0 m : Nat) (w : World) (h : OwnW w lo n v (marksW k0 m)) (hn : n ≤ w.heap.size) (hl : m ≤ 1000000) (h1 : 1 ≤ k0) (hk0 : k0 ≤ 1000000) :
    Calls Try.prog 27 #[v, .int .i64 k0] w fun e w' => e = .returned (.int .i64 ((k0 + m : Nat) : Int)) ∧ Below w.heap.size w w' := by
  obtain ⟨a, cap, hv, h⟩ := h
  rw [marksW_len] at hv
  subst hv
  have HW := hide h
  have HN := hide hn
  clear h hn
  go_enter Try.func27, Try.ntmps27
  go_wp2
  go_loopw [1, 5] (fun kk i wr => ∃ k : Nat, k ≤ m ∧ i = .int .i64 k ∧ kk = .int .i64 ((k0 + k : Nat) : Int) ∧ Hid (Below w.heap.size w wr)) (fun _ i _ => m - (intOf i).toNat)
  case atStart => exact ⟨0, Nat.zero_le _, rfl, rfl, hide (Below.refl _ _)⟩
  case round =>
    obtain ⟨k, hk, rfl, rfl, HB⟩ := hrel
    by_cases hp : k < m
    · rcases unhide HW with h | ⟨b, rfl, h2, h3, h4, h5⟩
      · have : (marksW k0 m).length = 0 := by rw [h]; rfl
        rw [marksW_len] at this
        omega
      have hc : ∀ W : World, Below w.heap.size w W → W.cell? ⟨b, k, none⟩ = some (.string (mt (k0 + k))) := fun W hb => by
        rw [hb.cell (p := ⟨b, k, none⟩) (Nat.lt_of_lt_of_le h3 (unhide HN)), h4 k (by rw [marksW_len]; exact hp), marksW_at]
      have hcr := hc wr (unhide HB)
      have HC := hide hc
      have he : ((mt (k0 + k)).toList != (mt (k0 + k)).toList) = false := by simp
      have HMT := hide (fun W : World => markText_any (k0 + k) (by omega) (by omega) W)
      clear h4 h5 hc
      generalize mt (k0 + k) = T at hcr he HC HMT
      go_wp2
      go_region_with (go_at_call 51; refine (unhide HMT _).mono ?_; rintro e w1 ⟨rfl, hb1⟩; have hck1 := unhide HC w1 ((unhide HB).drew.trans (hb1.mono (unhide HB).drew.size)))
      all_goals
        go_wp2
        go_roundw
        case rel => exact ⟨k + 1, by omega, by go_num, by go_num, hide ((unhide HB).drew.trans (hb1.mono (unhide HB).drew.size))⟩
        case measure => simp [intOf]; omega
    · have hk' : k = m := by omega
      subst hk'
      go_wp2
      go_ret
      exact ⟨rfl, unhide HB⟩
end Go.Proofs.Ytgdeehldpmfpgaa
