/- The walks of treeSum and treeLevel.add. Conditions: the bed is new to the level. -/
import Derived.Test.YtambkcchnmbaoaaSb
import Derived.Test.YtambkcchnmbaoaaVc
import Derived.Deep.RegionWith
namespace Go.Proofs.Ytambkcchnmbaoaa
open Go.RowKit Go.PlainAid
open Go.ChangeMaps (setBlock)

abbrev standV (b n cap : Nat) (t : Int) : Value := .agg #[.slice (some ⟨b, 0, none⟩) n cap, .int .i64 t]
set_option maxHeartbeats 400000 in
theorem treeSum_any (a b : Int) (w : World) (ha : 0 ≤ a) (hb : 0 ≤ b) (hs : a + b ≤ 10000000) :
    Calls Try.prog 89 #[.int .i64 a, .int .i64 b] w fun r w' => r = .returned (.int .i64 (a + b)) ∧ w = w' := by
  have h1 : ¬ (9223372036854775807 - b < a) := by omega
  go_enter Try.func89, Try.ntmps89
  go_wp2
  go_ret
  exact ⟨rfl, rfl⟩

set_option maxHeartbeats 400000 in
theorem add_none (r : Nat) (a : Option Addr) (cap : Nat) (t : Int) (w : World) : Calls Try.prog 88 #[.map (some r), .slice a 0 cap, .int .i64 t] w fun e w' => e = .returned (.tuple #[]) ∧ w = w' := by
  go_enter Try.func88, Try.ntmps88
  go_wp2
  first | go_end0 | refine bodyPost_ret (results_none rfl _ _ _) rfl ?_
  exact ⟨rfl, rfl⟩
theorem plain_mono {w w' : World} {b : Nat} (h : Plainly w b) (he : w'.heap[b]? = w.heap[b]?) : Plainly w' b := by
  obtain ⟨C, t, hC⟩ := h
  exact ⟨C, t, he.trans hC⟩
theorem plain_lt {w : World} {b : Nat} (h : Plainly w b) : b < w.heap.size := by
  obtain ⟨C, t, hC⟩ := h
  exact (Array.getElem?_eq_some_iff.1 hC).1
theorem blk_at {W : World} {r : Nat} (o : Obj) (h : r < W.heap.size) : (setBlock W r o).heap[r]? = some o := by
  unfold setBlock; simp [h]
theorem blk_other {W : World} {r k : Nat} (o : Obj) (h : k ≠ r) : (setBlock W r o).heap[k]? = W.heap[k]? := by
  unfold setBlock; simp [Ne.symm h]
theorem gr_blk {w W : World} {r : Nat} (o : Obj) (h : w.grownBy W (some r)) : w.grownBy (setBlock W r o) (some r) :=
  ⟨h.os, h.tape, h.output, by simpa [setBlock] using h.size, fun k hk hr => (blk_other o (fun e => hr (by rw [e]))).trans (h.block k hk hr)⟩
set_option maxRecDepth 100000 in
set_option maxHeartbeats 2000000 in
theorem add_new (r b n cap c : Nat) (es : Array MapEntry) (w : World) (hr : w.heap[r]? = some (.map es c)) (hb : Plainly w b) (h : NoBed w b es.toList) (hn : 1 ≤ n) (hn2 : n ≤ maxLen) :
    Calls Try.prog 88 #[.map (some r), .slice (some ⟨b, 0, none⟩) n cap, .int .i64 1] w fun e w' => e = .returned (.tuple #[]) ∧ w'.heap[r]? = some (.map (es.push ⟨bedV b n, standV b n cap 1, c⟩) (c + 1)) ∧ w.grownBy w' (some r) := by
  have hblk : ∀ k, k < w.heap.size → ∀ o, (w.alloc o).drew.heap[k]? = w.heap[k]? := fun k hk o => ((Below.refl w.heap.size w).alloc (Nat.le_refl _) o).drew.block k hk
  have hrl : r < w.heap.size := (Array.getElem?_eq_some_iff.1 hr).1
  have hr2 : (w.alloc (.cells #[.pointer (some ⟨b, 0, none⟩), .int .i64 (n : Int)] 106)).drew.heap[r]? = some (.map es c) := (hblk r hrl _).trans hr
  have hb2 : Plainly (w.alloc (.cells #[.pointer (some ⟨b, 0, none⟩), .int .i64 (n : Int)] 106)).drew b := plain_mono hb (hblk b (plain_lt hb) _)
  have h2 : NoBed (w.alloc (.cells #[.pointer (some ⟨b, 0, none⟩), .int .i64 (n : Int)] 106)).drew b es.toList := fun x hx => by
    obtain ⟨b', n', h1, h2, h3⟩ := h x hx
    exact ⟨b', n', h1, h2, plain_mono h3 (hblk b' (plain_lt h3) _)⟩
  have hl := look_miss _ r b n c es hr2 hb2 h2
  have hp := put_miss 136 139 Try.underlying136 _ r b n c (standV b n cap 1) es hr2 hb2 h2
  have hfl : ∀ W, (Instr.field 139 (.agg #[.slice none 0 0, .int .i64 0]) 1).run Try.prog W = .ok (.int .i64 0) W := fun _ => by kernel_rfl
  have hne : ((n : Int) == 0) = false := by rw [beq_eq_false_iff_ne]; omega
  unfold maxLen at hn2
  have HB := hide hb
  have HR := hide hrl
  clear hblk hr2 hb2 h2 h hb hr hrl
  go_enter Try.func88, Try.ntmps88
  go_wp2
  go_region_with (go_at_call 89; refine (treeSum_any _ _ _ (by omega) (by omega) (by omega)).mono ?_; rintro e w2 ⟨rfl, rfl⟩)
  all_goals
    first | go_end0 | refine bodyPost_ret (results_none rfl _ _ _) rfl ?_
    refine ⟨rfl, blk_at _ ?_, gr_blk _ (gr_below (((Below.refl w.heap.size w).alloc (Nat.le_refl _) _).drew) _)⟩
    have := (((Below.refl w.heap.size w).alloc (Nat.le_refl _) (.cells #[.pointer (some ⟨b, 0, none⟩), .int .i64 (n : Int)] 106)).drew).size
    have := unhide HR
    omega
end Go.Proofs.Ytambkcchnmbaoaa
