/- The walks of the reader's num and of l22Val. Conditions: the slice that was handed in can be read. -/
import Derived.Test.YtjnahhalgckggaaDsm
import Derived.Test.YtjnahhalgckggaaAu
namespace Go.Proofs.Ytjnahhalgckggaa
open Go.RowKit Go.PlainAid

/-- A list of numbers that lies in block L. -/
def IsNums (w : World) (L : Nat) (zs : List Int) : Prop := ∀ j (hj : j < zs.length), w.cell? ⟨L, j, none⟩ = some (.int .i64 zs[j])
set_option maxHeartbeats 400000 in
theorem num_any (B L c : Nat) (zs : List Int) (a : Option Addr) (len cap p : Nat) (w : World) (h : IsRd w B a len cap p) (hp : p ≤ 1000000) (hLB : L ≠ B) (hm1 : 1 ≤ zs.length) (hm2 : zs.length ≤ 1000) (hL : IsNums w L zs) :
    Calls Try.prog 32 #[.pointer (some ⟨B, 0, none⟩), .slice (some ⟨L, 0, none⟩) zs.length c] w fun e w' => ∃ z : Int, z ∈ zs ∧ e = .returned (.int .i64 z) ∧ IsRd w' B a len cap (p + 1) ∧ Moved B w w' := by
  have HP := hide (fun n (hn : n ≤ 1000000) => pick_any B a len cap p n w h hp hn)
  have HR := hide h
  clear h
  obtain ⟨m, hm⟩ : ∃ m, zs.length = m := ⟨_, rfl⟩
  rw [hm] at hm1 hm2 ⊢
  have HM := hide hm
  clear hm
  go_enter Try.func32, Try.ntmps32
  go_wp2_with fail
  refine (unhide HP _ (by omega)).mono ?_
  rintro e w1 ⟨i, rfl, i0, i1, k, rfl⟩
  have i2 := i1 (by omega)
  clear i1
  obtain ⟨j, rfl⟩ := Int.eq_ofNat_of_zero_le i0
  have hjz : j < zs.length := by rw [unhide HM]; omega
  have hc : w.cell? ⟨L, j, none⟩ = some (.int .i64 zs[j]) := hL j hjz
  obtain ⟨z, hz⟩ : ∃ z, zs[j] = z := ⟨_, rfl⟩
  rw [hz] at hc
  have HZ : Hid (z ∈ zs) := hide (by rw [← hz]; exact List.getElem_mem hjz)
  clear hL hz hjz
  go_wp2
  go_ret
  exact ⟨z, unhide HZ, rfl, (unhide HR).next k, moved_set w B k _⟩
/-- Nothing but the block B has turned, of what was there. -/
def MovedG (B : Nat) (w w' : World) : Prop := Below B w w' ∧ ∀ b, b < w.heap.size → b ≠ B → w'.heap[b]? = w.heap[b]?
theorem MovedG.refl (B : Nat) (w : World) : MovedG B w w := ⟨Below.refl _ _, fun _ _ _ => rfl⟩
theorem MovedG.trans {B : Nat} {w w' w'' : World} (h : MovedG B w w') (k : MovedG B w' w'') : MovedG B w w'' := ⟨h.1.trans k.1, fun b hb hB => (k.2 b (Nat.lt_of_lt_of_le hb h.1.size) hB).trans (h.2 b hb hB)⟩
theorem Moved.g {B : Nat} {w w' : World} (h : Moved B w w') : MovedG B w w' := ⟨h.1, fun b _ hB => h.2.2 b hB⟩
theorem MovedG.below {B : Nat} {w w' : World} (h : Below w.heap.size w w') (hB : B ≤ w.heap.size) : MovedG B w w' := ⟨h.mono hB, fun b hb _ => h.block b hb⟩
/-- Values that are drawn. -/
def Gd (x : MV) : Prop := (x.kind = 1 ∨ x.kind = 2 ∨ x.kind = 3) ∧ (x.kind = 1 → -9223372036854775808 ≤ x.num ∧ x.num ≤ 9223372036854775807) ∧ x.row.length ≤ 16
def nums1 : List Int := [0, 1, 2, 3, -1, 7, 15, 16, -9223372036854775808, 9223372036854775807, 4611686018427387904]
def nums2 : List Int := [0, 1, 2, 3, 8, 9, 16]
theorem nums1_in (z : Int) (h : z ∈ nums1) : -9223372036854775808 ≤ z ∧ z ≤ 9223372036854775807 := by
  simp only [nums1, List.mem_cons, List.not_mem_nil, or_false] at h
  omega
theorem nums2_in (z : Int) (h : z ∈ nums2) : 0 ≤ z ∧ z ≤ 16 := by
  simp only [nums2, List.mem_cons, List.not_mem_nil, or_false] at h
  omega

theorem MovedG.setE {B : Nat} {w w2 : World} (h : MovedG B w w2) (R i : Nat) (v : Value) (h1 : w.heap.size ≤ R) (h2 : B ≤ R) : MovedG B w (w2.setCell ⟨R, i, none⟩ v) :=
  ⟨h.1.setCell (p := ⟨R, i, none⟩) h2 v, fun b hb hB => (Below.heap_setCell _ _ _ _ (by simp; omega)).trans (h.2 b hb hB)⟩
theorem IsRd.setE {w : World} {B : Nat} {a : Option Addr} {len cap p : Nat} (h : IsRd w B a len cap p) (R i : Nat) (v : Value) (h2 : B < R) : IsRd (w.setCell ⟨R, i, none⟩ v) B a len cap p :=
  h.kept ((Below.refl _ _).setCell (p := ⟨R, i, none⟩) h2 v)
theorem MovedG.drew {B : Nat} {w w2 : World} (h : MovedG B w w2) : MovedG B w w2.drew := ⟨h.1.drew, h.2⟩
theorem MovedG.grown {B : Nat} {w X X' : World} {v : Value} (h : MovedG B w X) (hg : X.grownBy X' v.ownBlock) (hv : ∀ k, v.ownBlock = some k → w.heap.size ≤ k ∧ B ≤ k) (hB : B ≤ w.heap.size) : MovedG B w X' :=
  ⟨h.1.grown hg (Nat.le_trans hB h.1.size) (fun k hk => (hv k hk).2), fun b hb hbB => (hg.block b (Nat.lt_of_lt_of_le hb h.1.size) (fun e => by have := (hv b e.symm).1; omega)).trans (h.2 b hb hbB)⟩
theorem OwnR.far {w w' : World} {base : Nat} {v : Value} {zs : List Int} (h : OwnR w base v zs) (hb : ∀ g, v.ownBlock = some g → w'.heap[g]? = w.heap[g]?) : OwnR w' base v zs := by
  obtain ⟨h1, h2⟩ := h
  refine ⟨h1, ?_⟩
  rcases h2 with h2 | ⟨g, cap, cur, rfl, h3, h4, h5⟩
  · exact .inl h2
  · exact .inr ⟨g, cap, cur, rfl, h3, (hb g rfl).trans h4, h5⟩
theorem one_int (W : World) (z : Int) : IsInts (W.alloc (.cells #[.int .i64 z] 3)) 0 (W.heap.size + 1) (some ⟨W.heap.size, 0, none⟩) [z] := by
  refine .inr ⟨W.heap.size, 0, rfl, Nat.zero_le _, Nat.lt_succ_self _, fun j hj => ?_⟩
  have : j = 0 := by simpa using hj
  subst this
  exact alloc_cell _ _ _ _
theorem Blk.grown {w w' : World} {B : Nat} {C : List Value} {v : Value} (h : Blk w B C) (hg : w.grownBy w' v.ownBlock) (hB : B < w.heap.size) (hv : ∀ k, v.ownBlock = some k → B ≠ k) : Blk w' B C := h.of_block (hg.block B hB (fun e => hv B e.symm rfl))
theorem nums_new (W : World) (zs : List Int) (C : Array Value) (hC : C = (zs.map (Value.int .i64)).toArray) : IsNums (W.alloc (.cells C 3)) W.heap.size zs := by
  intro j hj
  rw [alloc_cell, hC]
  simp [hj]

set_option maxRecDepth 100000 in
set_option maxHeartbeats 2000000 in
theorem l22Val_1 (B : Nat) (a : Option Addr) (len cap p : Nat) (w : World) (h : IsRd w B a len cap p) (hp : p ≤ 900000) (hB : B < w.heap.size) :
    Calls Try.prog 20 #[.pointer (some ⟨B, 0, none⟩), .int .i64 1] w fun e w' => ∃ (x : MV) (v : Value) (p' : Nat), e = .returned (.agg #[.int .i64 x.kind, .int .i64 x.num, v]) ∧ OwnI w' w.heap.size w'.heap.size v x.row ∧ Gd x ∧ IsRd w' B a len cap p' ∧ p' ≤ p + 20 ∧ MovedG B w w' := by
  obtain ⟨W, hW⟩ : ∃ W, W = (w.alloc (.cells #[Value.int .i64 0, Value.int .i64 0, Value.slice none 0 0] 28)).alloc (.cells #[Value.int .i64 0, Value.int .i64 1, Value.int .i64 2, Value.int .i64 3, Value.int .i64 (-1), Value.int .i64 7, Value.int .i64 15, Value.int .i64 16, Value.int .i64 (-9223372036854775808), Value.int .i64 9223372036854775807, Value.int .i64 4611686018427387904] 3) := ⟨_, rfl⟩
  have bW : Below w.heap.size w W := by rw [hW]; exact ((Below.refl _ w).alloc (Nat.le_refl _) _).alloc (by simp) _
  have kW : Blk W w.heap.size [Value.int .i64 0, Value.int .i64 0, Value.slice none 0 0] := by rw [hW]; exact (Blk.new w [Value.int .i64 0, Value.int .i64 0, Value.slice none 0 0] 28).old _ (by simp)
  have sW : W.heap.size = w.heap.size + 2 := by rw [hW]; simp
  have lW : IsNums W (w.heap.size + 1) nums1 := by
    have := nums_new (w.alloc (.cells #[Value.int .i64 0, Value.int .i64 0, Value.slice none 0 0] 28)) nums1 #[Value.int .i64 0, Value.int .i64 1, Value.int .i64 2, Value.int .i64 3, Value.int .i64 (-1), Value.int .i64 7, Value.int .i64 15, Value.int .i64 16, Value.int .i64 (-9223372036854775808), Value.int .i64 9223372036854775807, Value.int .i64 4611686018427387904] rfl
    rw [alloc_size] at this
    rw [hW]
    exact this
  have HN := hide (num_any B (w.heap.size + 1) 11 nums1 a len cap p W (h.kept (bW.mono hB)) (by omega) (by omega) (by decide) (by decide) lW)
  have HKW := hide kW
  have HBW := hide bW
  have HSW := hide sW
  clear h bW kW lW sW
  go_enter Try.func20, Try.ntmps20
  go_wp2_with fail
  rw [← hW]
  clear hW
  refine (unhide HN).mono ?_
  rintro r w2 ⟨z, hz, rfl, hr2, hm2⟩
  have HG := hide ((MovedG.below (unhide HBW) (Nat.le_of_lt hB)).trans hm2.g)
  have hblk := (unhide HKW).of_block (hm2.2.2 w.heap.size (by omega))
  have HR2 := hide hr2
  have HZ := hide (nums1_in z hz)
  have HS2 : Hid (w2.heap.size = W.heap.size) := hide hm2.2.1
  have q0 := hblk.cellAt (i := 0) rfl
  have q1 := hblk.cellAt (i := 1) rfl
  have q2 := hblk.cellAt (i := 2) rfl
  have f0 := hblk.2 0
  have f1 := hblk.2 1
  have f2 := hblk.2 2
  have HBLK := hide hblk
  clear hblk hr2 hm2 hz HN
  go_wp2
  have hn := (((unhide HBLK).set 0 (.int .i64 1) (by simp)).set 1 (.int .i64 z) (by simp)).set 2 (.slice none 0 0) (by simp)
  have hG := (((unhide HG).setE w.heap.size 0 (.int .i64 1) (by omega) (by omega)).setE w.heap.size 1 (.int .i64 z) (by omega) (by omega)).setE w.heap.size 2 (.slice none 0 0) (by omega) (by omega)
  have hRd := (((unhide HR2).setE w.heap.size 0 (.int .i64 1) (by omega)).setE w.heap.size 1 (.int .i64 z) (by omega)).setE w.heap.size 2 (.slice none 0 0) (by omega)
  obtain ⟨FW, hF⟩ : ∃ FW, FW = ((w2.setCell ⟨w.heap.size, 0, none⟩ (.int .i64 1)).setCell ⟨w.heap.size, 1, none⟩ (.int .i64 z)).setCell ⟨w.heap.size, 2, none⟩ (.slice none 0 0) := ⟨_, rfl⟩
  rw [← hF] at hn hG hRd ⊢
  have g0 := hn.cellAt (i := 0) rfl
  have g1 := hn.cellAt (i := 1) rfl
  have g2 := hn.cellAt (i := 2) rfl
  refine bodyPost_ret (v := .agg #[.int .i64 1, .int .i64 z, .slice none 0 0]) (by simp [results, Try.results20, go_sem, g0, g1, g2]) rfl ?_
  exact ⟨⟨1, z, []⟩, _, p + 1, rfl, own_nil _ _ _, ⟨.inl rfl, fun _ => unhide HZ, by simp⟩, hRd, by omega, hG⟩

set_option maxRecDepth 100000 in
set_option maxHeartbeats 2000000 in
theorem l22Val_2 (B : Nat) (a : Option Addr) (len cap p : Nat) (w : World) (h : IsRd w B a len cap p) (hp : p ≤ 900000) (hB : B < w.heap.size) :
    Calls Try.prog 20 #[.pointer (some ⟨B, 0, none⟩), .int .i64 2] w fun e w' => ∃ (x : MV) (v : Value) (p' : Nat), e = .returned (.agg #[.int .i64 x.kind, .int .i64 x.num, v]) ∧ OwnI w' w.heap.size w'.heap.size v x.row ∧ Gd x ∧ IsRd w' B a len cap p' ∧ p' ≤ p + 20 ∧ MovedG B w w' := by
  have HN := hide (pick_abs B a len cap p 2 (w.alloc (.cells #[Value.int .i64 0, Value.int .i64 0, Value.slice none 0 0] 28)) (h.kept ((below_new w _).mono hB)) (by omega) (by omega))
  have HKW := hide (Blk.new w [Value.int .i64 0, Value.int .i64 0, Value.slice none 0 0] 28)
  clear h
  go_enter Try.func20, Try.ntmps20
  go_wp2_with fail
  refine (unhide HN).mono ?_
  rintro r w2 ⟨z, rfl, z0, z1, hr2, hm2⟩
  have HG := hide ((MovedG.below (below_new w _) (Nat.le_of_lt hB)).trans hm2.g)
  have hblk := (unhide HKW).of_block (hm2.2.2 w.heap.size (by omega))
  have HR2 := hide hr2
  have q0 := hblk.cellAt (i := 0) rfl
  have q1 := hblk.cellAt (i := 1) rfl
  have q2 := hblk.cellAt (i := 2) rfl
  have f0 := hblk.2 0
  have f1 := hblk.2 1
  have f2 := hblk.2 2
  have HBLK := hide hblk
  clear hblk hr2 hm2 HN
  go_wp2
  have hn := (((unhide HBLK).set 0 (.int .i64 2) (by simp)).set 1 (.int .i64 z) (by simp)).set 2 (.slice none 0 0) (by simp)
  have hG := (((unhide HG).setE w.heap.size 0 (.int .i64 2) (by omega) (by omega)).setE w.heap.size 1 (.int .i64 z) (by omega) (by omega)).setE w.heap.size 2 (.slice none 0 0) (by omega) (by omega)
  have hRd := (((unhide HR2).setE w.heap.size 0 (.int .i64 2) (by omega)).setE w.heap.size 1 (.int .i64 z) (by omega)).setE w.heap.size 2 (.slice none 0 0) (by omega)
  obtain ⟨FW, hF⟩ : ∃ FW, FW = ((w2.setCell ⟨w.heap.size, 0, none⟩ (.int .i64 2)).setCell ⟨w.heap.size, 1, none⟩ (.int .i64 z)).setCell ⟨w.heap.size, 2, none⟩ (.slice none 0 0) := ⟨_, rfl⟩
  rw [← hF] at hn hG hRd ⊢
  have g0 := hn.cellAt (i := 0) rfl
  have g1 := hn.cellAt (i := 1) rfl
  have g2 := hn.cellAt (i := 2) rfl
  refine bodyPost_ret (v := .agg #[.int .i64 2, .int .i64 z, .slice none 0 0]) (by simp [results, Try.results20, go_sem, g0, g1, g2]) rfl ?_
  exact ⟨⟨2, z, []⟩, _, p + 1, rfl, own_nil _ _ _, ⟨.inr (.inl rfl), fun h => absurd (show (2 : Int) = 1 from h) (by decide), by simp⟩, hRd, by omega, hG⟩

set_option maxRecDepth 100000 in
set_option maxHeartbeats 2000000 in
theorem l22Val_3 (B : Nat) (a : Option Addr) (len cap p : Nat) (t : Int) (ht1 : (t == 1) = false) (ht2 : (t == 2) = false) (w : World) (h : IsRd w B a len cap p) (hp : p ≤ 900000) (hB : B < w.heap.size) :
    Calls Try.prog 20 #[.pointer (some ⟨B, 0, none⟩), .int .i64 t] w fun e w' => ∃ (x : MV) (v : Value) (p' : Nat), e = .returned (.agg #[.int .i64 x.kind, .int .i64 x.num, v]) ∧ OwnI w' w.heap.size w'.heap.size v x.row ∧ Gd x ∧ IsRd w' B a len cap p' ∧ p' ≤ p + 20 ∧ MovedG B w w' := by
  obtain ⟨W, hW⟩ : ∃ W, W = ((w.alloc (.cells #[Value.int .i64 0, Value.int .i64 0, Value.slice none 0 0] 28)).alloc (.cells #[Value.int .i64 3, Value.int .i64 0, Value.slice none 0 0] 28)).alloc (.cells #[Value.int .i64 0, Value.int .i64 1, Value.int .i64 2, Value.int .i64 3, Value.int .i64 8, Value.int .i64 9, Value.int .i64 16] 3) := ⟨_, rfl⟩
  have bW : Below w.heap.size w W := by rw [hW]; exact (((Below.refl _ w).alloc (Nat.le_refl _) _).alloc (by simp) _).alloc (by simp; omega) _
  have kW : Blk W w.heap.size [Value.int .i64 0, Value.int .i64 0, Value.slice none 0 0] := by rw [hW]; exact ((Blk.new w [Value.int .i64 0, Value.int .i64 0, Value.slice none 0 0] 28).old _ (by simp)).old _ (by simp; omega)
  have vW : Blk W (w.heap.size + 1) [Value.int .i64 3, Value.int .i64 0, Value.slice none 0 0] := by
    have := (Blk.new (w.alloc (.cells #[Value.int .i64 0, Value.int .i64 0, Value.slice none 0 0] 28)) [Value.int .i64 3, Value.int .i64 0, Value.slice none 0 0] 28).old (.cells #[Value.int .i64 0, Value.int .i64 1, Value.int .i64 2, Value.int .i64 3, Value.int .i64 8, Value.int .i64 9, Value.int .i64 16] 3) (by simp)
    rw [alloc_size] at this
    rw [hW]
    exact this
  have sW : W.heap.size = w.heap.size + 3 := by rw [hW]; simp
  have lW : IsNums W (w.heap.size + 2) nums2 := by
    have := nums_new ((w.alloc (.cells #[Value.int .i64 0, Value.int .i64 0, Value.slice none 0 0] 28)).alloc (.cells #[Value.int .i64 3, Value.int .i64 0, Value.slice none 0 0] 28)) nums2 #[Value.int .i64 0, Value.int .i64 1, Value.int .i64 2, Value.int .i64 3, Value.int .i64 8, Value.int .i64 9, Value.int .i64 16] rfl
    rw [alloc_size, alloc_size] at this
    rw [hW]
    exact this
  have HN := hide (num_any B (w.heap.size + 2) 7 nums2 a len cap p W (h.kept (bW.mono hB)) (by omega) (by omega) (by decide) (by decide) lW)
  have HKW := hide kW
  have HVW := hide vW
  have HBW := hide bW
  have HSW := hide sW
  clear h bW kW lW sW vW
  go_enter Try.func20, Try.ntmps20
  go_wp2_with fail
  rw [← hW]
  clear hW
  refine (unhide HN).mono ?_
  rintro r w2 ⟨z, hz, rfl, hr2, hm2⟩
  obtain ⟨z0, z1⟩ := nums2_in z hz
  obtain ⟨m0, rfl⟩ := Int.eq_ofNat_of_zero_le z0
  have HG := hide ((MovedG.below (unhide HBW) (Nat.le_of_lt hB)).trans hm2.g)
  have HK2 := hide ((unhide HKW).of_block (hm2.2.2 w.heap.size (by omega)))
  have HV2 := hide ((unhide HVW).of_block (hm2.2.2 (w.heap.size + 1) (by omega)))
  have HR2 := hide hr2
  have HS2 : Hid (w2.heap.size = w.heap.size + 3) := hide (by rw [hm2.2.1]; exact unhide HSW)
  clear hr2 hm2 hz HN
  go_wp2
  go_loopw [6] (fun i wr => ∃ (m q : Nat) (zs : List Int) (sa : Option Addr) (sl sc : Nat), i = .int .i64 m ∧ m + zs.length ≤ 16 ∧ q + m ≤ p + 17 ∧ Hid (IsRd wr B a len cap q) ∧ Hid (Blk wr w.heap.size [Value.int .i64 0, Value.int .i64 0, Value.slice none 0 0]) ∧ Hid (Blk wr (w.heap.size + 1) [Value.int .i64 3, Value.int .i64 0, Value.slice sa sl sc]) ∧ Hid (OwnR wr (w.heap.size + 3) (.slice sa sl sc) zs) ∧ Hid (MovedG B w wr) ∧ Hid (w.heap.size + 3 ≤ wr.heap.size)) (fun i _ => (intOf i).toNat)
  case atStart => exact ⟨m0, p + 1, [], none, 0, 0, rfl, by simp; omega, by omega, HR2, HK2, HV2, hide (OwnR.nil _ _), HG, hide (by rw [unhide HS2]; exact Nat.le_refl _)⟩
  case round =>
    obtain ⟨m, q, zs, sa, sl, sc, rfl, hmz, hqm, HRr, HKr, HVr, HOr, HGr, HSr⟩ := hrel
    have hv := unhide HVr
    have q0 := hv.cellAt (i := 0) rfl
    have q1 := hv.cellAt (i := 1) rfl
    have q2 := hv.cellAt (i := 2) rfl
    have f2 := hv.2 2
    clear hv
    by_cases h0 : 0 < m
    · obtain ⟨ta, tc, hf⟩ := (unhide HOr).own.form
      simp only [Value.slice.injEq] at hf
      obtain ⟨rfl, rfl, rfl⟩ := hf
      have HPK := hide (pick_abs B a len cap q 20 wr.drew ((unhide HRr).kept (Below.refl _ _).drew) (by omega) (by omega))
      have hsr : w.heap.size + 1 < wr.heap.size := by have := unhide HSr; omega
      go_wp2
      go_region_law (first
        | (refine step_run rfl (.tmp 30) (.tmp 34) 26 rfl rfl (.slice sa zs.length sc) (.slice (some ⟨w3.heap.size, 0, none⟩) 1 1) rfl rfl (.slice a4 (zs.length + 1) c4) X4 (by exact r4) ?_)
        | (go_simp; refine (unhide HPK).mono ?_; rintro r w3 ⟨i, rfl, i0, i1, hr3, hm3⟩; have i2 := i1 (by omega); have hs3 : w3.heap.size = wr.heap.size := hm3.2.1; have kk3 := (unhide HKr).of_block (hm3.2.2 w.heap.size (by omega)); have kv3 := (unhide HVr).of_block (hm3.2.2 (w.heap.size + 1) (by omega)); have oo3 : OwnR w3 (w.heap.size + 3) (.slice sa zs.length sc) zs := (unhide HOr).far (fun g hg => hm3.2.2 g (by have := (unhide HOr).block g hg; omega)); obtain ⟨v4, X4, r4, o4, y4⟩ := run_app_any (w3.alloc (.cells #[.int .i64 (IntKind.i64.wrap (i - 5))] 3)) (w.heap.size + 3) (.slice sa zs.length sc) zs [IntKind.i64.wrap (i - 5)] (oo3.far (fun g hg => (below_new w3 _).block g (oo3.lt g hg).2)) (by rw [alloc_size, hs3]; have := unhide HSr; omega) (some ⟨w3.heap.size, 0, none⟩) 1 0 (w3.heap.size + 1) (one_int w3 (IntKind.i64.wrap (i - 5))) (by simp; omega); obtain ⟨a4, c4, rfl⟩ := o4.own.form; have hl4 : (zs ++ [IntKind.i64.wrap (i - 5)]).length = zs.length + 1 := (by simp); rw [hl4] at r4 o4; have c2 : w3.cell? ⟨w.heap.size + 1, 2, none⟩ = some (.slice sa zs.length sc) := kv3.cellAt (i := 2) rfl; have kv4 := (kv3.old (.cells #[.int .i64 (IntKind.i64.wrap (i - 5))] 3) (by rw [hs3]; have := unhide HSr; omega)).grown y4 (by rw [alloc_size, hs3]; have := unhide HSr; omega) (fun k hk => by have := oo3.block k hk; omega); have cX : X4.cell? ⟨w.heap.size + 1, 2, none⟩ = some (.slice sa zs.length sc) := kv4.cellAt (i := 2) rfl; have fX := kv4.2 2; have hlt3 : w.heap.size + 1 < w3.heap.size := (by rw [hs3]; have := unhide HSr; omega); have KV4 := hide kv4; have KK4 := hide ((kk3.old (.cells #[.int .i64 (IntKind.i64.wrap (i - 5))] 3) (by omega)).grown y4 (by rw [alloc_size]; omega) (fun k hk => by have := oo3.block k hk; omega)); have OO4 := hide o4; have HR4 := hide (hr3.kept (((Below.refl (B + 1) w3).alloc (by omega) _).grown y4 (by rw [alloc_size]; omega) (fun k hk => by have := oo3.block k hk; omega))); have HG4 := hide ((((unhide HGr).drew.trans hm3.g).trans (MovedG.below (below_new w3 _) (by omega))).grown y4 (fun k hk => by have := oo3.block k hk; omega) (by omega)); have HS4 : Hid (w.heap.size + 3 ≤ X4.heap.size) := hide (by have := y4.size; rw [alloc_size, hs3] at this; have := unhide HSr; omega); clear hr3 hm3 kk3 kv3 oo3 o4 y4 kv4 i1 hs3))
      all_goals
        go_wp2
        go_roundw
        case rel =>
          refine ⟨m - 1, q + 1, zs ++ [IntKind.i64.wrap (i - 5)], a4, zs.length + 1, c4, by go_num, by simp; omega, by omega, hide ((unhide HR4).setE _ _ _ (by omega)), hide ((unhide KK4).other _ _ _ (by omega)), hide (by have := (unhide KV4).set 2 (.slice a4 (zs.length + 1) c4) (by simp); exact this), hide ((unhide OO4).far (fun g hg => Below.heap_setCell _ _ _ _ (by have := (unhide OO4).block g hg; simp; omega))), hide ((unhide HG4).setE _ _ _ (by omega) (by omega)), hide (by simpa [World.setCell] using unhide HS4)⟩
        case measure => simp [intOf]; omega
    · have hm0 : m = 0 := by omega
      subst hm0
      have hsr : w.heap.size + 1 < wr.heap.size := by have := unhide HSr; omega
      have hblk := unhide HKr
      have u0 := hblk.cellAt (i := 0) rfl
      have u1 := hblk.cellAt (i := 1) rfl
      have u2 := hblk.cellAt (i := 2) rfl
      have e0 := hblk.2 0
      have e1 := hblk.2 1
      have e2 := hblk.2 2
      have HBLK := HKr
      have HR2 := HRr
      have HG := HGr
      clear hblk
      go_wp2
      have hn := (((unhide HBLK).set 0 (.int .i64 3) (by simp)).set 1 (.int .i64 0) (by simp)).set 2 (.slice sa sl sc) (by simp)
      have hG := (((unhide HG).setE w.heap.size 0 (.int .i64 3) (by omega) (by omega)).setE w.heap.size 1 (.int .i64 0) (by omega) (by omega)).setE w.heap.size 2 (.slice sa sl sc) (by omega) (by omega)
      have hRd := (((unhide HR2).setE w.heap.size 0 (.int .i64 3) (by omega)).setE w.heap.size 1 (.int .i64 0) (by omega)).setE w.heap.size 2 (.slice sa sl sc) (by omega)
      obtain ⟨FW, hF⟩ : ∃ FW, FW = ((wr.setCell ⟨w.heap.size, 0, none⟩ (.int .i64 3)).setCell ⟨w.heap.size, 1, none⟩ (.int .i64 0)).setCell ⟨w.heap.size, 2, none⟩ (.slice sa sl sc) := ⟨_, rfl⟩
      rw [← hF] at hn hG hRd ⊢
      have g0 := hn.cellAt (i := 0) rfl
      have g1 := hn.cellAt (i := 1) rfl
      have g2 := hn.cellAt (i := 2) rfl
      refine bodyPost_ret (v := .agg #[.int .i64 3, .int .i64 0, .slice sa sl sc]) (by simp [results, Try.results20, go_sem, g0, g1, g2]) rfl ?_
      refine ⟨⟨3, 0, zs⟩, _, q, rfl, ?_, ⟨.inr (.inr rfl), fun h => absurd (show (3 : Int) = 1 from h) (by decide), by show zs.length ≤ 16; omega⟩, hRd, by omega, hG⟩
      rw [hF]
      exact ((((((unhide HOr).own.setE (show w.heap.size < w.heap.size + 3 by omega)).setE (show w.heap.size < w.heap.size + 3 by omega)).setE (show w.heap.size < w.heap.size + 3 by omega))).same (fun _ _ _ => ⟨fun _ => rfl, fun _ => rfl⟩) (by omega) (by simp [World.setCell]))
theorem l22Val_any (t : Int) (B : Nat) (a : Option Addr) (len cap p : Nat) (w : World) (h : IsRd w B a len cap p) (hp : p ≤ 900000) (hB : B < w.heap.size) :
    Calls Try.prog 20 #[.pointer (some ⟨B, 0, none⟩), .int .i64 t] w fun e w' => ∃ (x : MV) (v : Value) (p' : Nat), e = .returned (.agg #[.int .i64 x.kind, .int .i64 x.num, v]) ∧ OwnI w' w.heap.size w'.heap.size v x.row ∧ Gd x ∧ IsRd w' B a len cap p' ∧ p' ≤ p + 20 ∧ MovedG B w w' := by
  by_cases h1 : t = 1
  · subst h1; exact l22Val_1 B a len cap p w h hp hB
  by_cases h2 : t = 2
  · subst h2; exact l22Val_2 B a len cap p w h hp hB
  exact l22Val_3 B a len cap p t (by simpa using h1) (by simpa using h2) w h hp hB
end Go.Proofs.Ytjnahhalgckggaa
