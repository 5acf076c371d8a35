/- The walks of l23Open and of, and what a reader keeps behind them. Conditions: the slice that was handed in can be read. -/
import Derived.Test.YtjnahhalgckggaaDr
namespace Go.Proofs.Ytjnahhalgckggaa
open Go.RowKit Go.PlainAid

theorem Src.less {w : World} {n : Nat} {a : Option Addr} {len m : Nat} (h : Src w n a len) (hm : m ≤ len) : Src w n a m := by
  rcases h with h | ⟨b, off, f, h1, h2, h3, h4⟩
  · exact .inl (by omega)
  · exact .inr ⟨b, off, f, h1, h2, h3, fun j hj => h4 j (by omega)⟩
theorem Src.kept {w w' : World} {n m : Nat} {a : Option Addr} {len : Nat} (h : Src w n a len) (hb : Below n w w') (hnm : n ≤ m) : Src w' m a len := by
  rcases h with h | ⟨b, off, f, h1, h2, h3, h4⟩
  · exact .inl h
  · exact .inr ⟨b, off, f, h1, by omega, h3, fun j hj => (hb.cell (p := ⟨b, off + j, none⟩) h2).trans (h4 j hj)⟩

set_option maxHeartbeats 400000 in
theorem l23Open_any (a : Option Addr) (len cap : Nat) (w : World) (hl : len ≤ cap) (hm : cap ≤ maxLen) (h : Src w w.heap.size a len) :
    Calls Try.prog 16 #[.slice a len cap] w fun e w' => ∃ len' cap' : Nat, e = .returned (.pointer (some ⟨w.heap.size, 0, none⟩)) ∧ IsRd w' w.heap.size a len' cap' 0 ∧ Below w.heap.size w w' ∧ w'.heap.size = w.heap.size + 1 := by
  unfold maxLen at hm
  have HS := hide h
  have HL := hide hl
  have hb0 : Below w.heap.size w w := Below.refl _ _
  by_cases hbig : 2000 < len
  · have hcap : (2000 : Int) ≤ (cap : Int) := by omega
    rcases h with h | ⟨b, off, f, rfl, h2, h3, h4⟩
    · omega
    clear h3 h4 hb0
    go_enter Try.func16, Try.ntmps16
    go_wp2
    go_ret
    refine ⟨2000, cap, rfl, ⟨?_, ?_, ?_, by omega, ?_⟩, (Below.refl _ _).alloc (Nat.le_refl _) _, by simp⟩
    · simp
    · simp
    · simp
    · exact ((unhide HS).less (by omega)).kept ((Below.refl _ _).alloc (Nat.le_refl _) _) (Nat.le_refl _)
  · clear h hb0
    go_enter Try.func16, Try.ntmps16
    go_wp2
    go_ret
    refine ⟨len, cap, rfl, ⟨?_, ?_, ?_, by omega, ?_⟩, (Below.refl _ _).alloc (Nat.le_refl _) _, by simp⟩
    · simp
    · simp
    · simp
    · exact (unhide HS).kept ((Below.refl _ _).alloc (Nat.le_refl _) _) (Nat.le_refl _)

theorem IsRd.kept {w w' : World} {B : Nat} {a : Option Addr} {len cap p : Nat} (h : IsRd w B a len cap p) (hb : Below (B + 1) w w') : IsRd w' B a len cap p := by
  obtain ⟨h1, h2, h3, h4, h5⟩ := h
  exact ⟨(hb.cell (p := ⟨B, 0, none⟩) (by simp)).trans h1, (hb.cell (p := ⟨B, 1, none⟩) (by simp)).trans h2, (hb.frozen (p := ⟨B, 1, none⟩) (by simp)).trans h3, h4, h5.kept (hb.mono (by omega)) (Nat.le_refl _)⟩
theorem IsRd.next {w : World} {B : Nat} {a : Option Addr} {len cap p : Nat} (h : IsRd w B a len cap p) (k : Nat) : IsRd ((w.setCell ⟨B, 1, none⟩ (.int .i64 ((p : Int) + 1))).drewN k) B a len cap (p + 1) := by
  obtain ⟨h1, h2, h3, h4, h5⟩ := h
  refine ⟨?_, ?_, ?_, h4, h5.kept (below_drewN ((Below.refl _ _).setCell (p := ⟨B, 1, none⟩) (Nat.le_refl _) _) _) (Nat.le_refl _)⟩
  · show (w.setCell ⟨B, 1, none⟩ (.int .i64 ((p : Int) + 1))).cell? ⟨B, 0, none⟩ = _
    exact (World.cell?_setCell_other _ ⟨B, 1, none⟩ ⟨B, 0, none⟩ _ (by simp)).trans h1
  · show (w.setCell ⟨B, 1, none⟩ (.int .i64 ((p : Int) + 1))).cell? ⟨B, 1, none⟩ = _
    exact World.cell?_setCell_same' _ _ _ (by rw [h2]; rfl)
  · show (w.setCell ⟨B, 1, none⟩ (.int .i64 ((p : Int) + 1))).frozen? ⟨B, 1, none⟩ = _
    rw [World.frozen?_setCell]; exact h3
theorem pick_below {w : World} {B : Nat} (k : Nat) (v : Value) : Below B w ((w.setCell ⟨B, 1, none⟩ v).drewN k) :=
  below_drewN ((Below.refl _ _).setCell (p := ⟨B, 1, none⟩) (Nat.le_refl _) _) _

/-- A list of texts that lies in block L. -/
def IsList (w : World) (L m : Nat) (f : Nat → ByteArray) : Prop := ∀ j, j < m → w.cell? ⟨L, j, none⟩ = some (.string (f j))

set_option maxHeartbeats 400000 in
theorem ofRd_any (B L m c : Nat) (f : Nat → ByteArray) (a : Option Addr) (len cap p : Nat) (w : World) (h : IsRd w B a len cap p) (hp : p ≤ 1000000) (hLB : L ≠ B) (hm1 : 1 ≤ m) (hm2 : m ≤ 1000) (hL : IsList w L m f) :
    Calls Try.prog 21 #[.pointer (some ⟨B, 0, none⟩), .slice (some ⟨L, 0, none⟩) m c] w fun e w' => ∃ j, j < m ∧ e = .returned (.string (f j)) ∧ ∃ k, w' = (w.setCell ⟨B, 1, none⟩ (.int .i64 (p + 1))).drewN k := by
  have HP := hide (fun n (hn : n ≤ 1000000) => pick_any B a len cap p n w h hp hn)
  clear h
  go_enter Try.func21, Try.ntmps21
  go_wp2_with fail
  refine (unhide HP _ (by omega)).mono ?_
  rintro e w1 ⟨i, rfl, i0, i1, k, rfl⟩
  have i2 := i1 (by omega)
  clear i1
  obtain ⟨j, rfl⟩ := Int.eq_ofNat_of_zero_le i0
  have hc : w.cell? ⟨L, j, none⟩ = some (.string (f j)) := hL j (by omega)
  clear hL
  go_wp2
  go_ret
  exact ⟨j, by omega, rfl, k, rfl⟩
/-- Nothing but the block B has turned. -/
def Moved (B : Nat) (w w' : World) : Prop := Below B w w' ∧ w'.heap.size = w.heap.size ∧ ∀ b, b ≠ B → w'.heap[b]? = w.heap[b]?
theorem moved_set (w : World) (B k : Nat) (v : Value) : Moved B w ((w.setCell ⟨B, 1, none⟩ v).drewN k) :=
  ⟨pick_below k v, by show (w.setCell ⟨B, 1, none⟩ v).heap.size = _; simp [World.setCell], fun b hb => Below.heap_setCell w ⟨B, 1, none⟩ v b hb⟩
theorem pick_abs (B : Nat) (a : Option Addr) (len cap p : Nat) (n : Int) (w : World) (h : IsRd w B a len cap p) (hp : p ≤ 1000000) (hn : n ≤ 1000000) :
    Calls Try.prog 18 #[.pointer (some ⟨B, 0, none⟩), .int .i64 n] w fun e w' => ∃ i : Int, e = .returned (.int .i64 i) ∧ 0 ≤ i ∧ (1 ≤ n → i < n) ∧ IsRd w' B a len cap (p + 1) ∧ Moved B w w' := by
  refine (pick_any B a len cap p n w h hp hn).mono ?_
  rintro e w' ⟨i, he, h0, h1, k, rfl⟩
  exact ⟨i, he, h0, h1, h.next k, moved_set w B k _⟩
theorem of_abs (B L m c : Nat) (f : Nat → ByteArray) (a : Option Addr) (len cap p : Nat) (w : World) (h : IsRd w B a len cap p) (hp : p ≤ 1000000) (hLB : L ≠ B) (hm1 : 1 ≤ m) (hm2 : m ≤ 1000) (hL : IsList w L m f) :
    Calls Try.prog 21 #[.pointer (some ⟨B, 0, none⟩), .slice (some ⟨L, 0, none⟩) m c] w fun e w' => ∃ j, j < m ∧ e = .returned (.string (f j)) ∧ IsRd w' B a len cap (p + 1) ∧ Moved B w w' := by
  refine (ofRd_any B L m c f a len cap p w h hp hLB hm1 hm2 hL).mono ?_
  rintro e w' ⟨j, hj, he, k, rfl⟩
  exact ⟨j, hj, he, h.next k, moved_set w B k _⟩
end Go.Proofs.Ytjnahhalgckggaa
