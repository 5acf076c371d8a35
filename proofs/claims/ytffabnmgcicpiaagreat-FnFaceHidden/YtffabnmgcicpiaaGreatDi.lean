/- The walk of l22Loop. Conditions: what is handed in can be read, and stays. -/
import Derived.Test.YtffabnmgcicpiaaGreatDh
namespace Go.Proofs.YtffabnmgcicpiaaGreat
open Go.RowKit Go.PlainAid


/-- The block that is made in a region whose place is not known: what stays is all but it. -/
theorem stepX {w w' : World} {N x : Nat} {u : Value} {b : Bool} {cells : List Value} (h1 : b = false → w.heap.size ≤ x) (h2 : b = true → u = .pointer (some ⟨x, 0, none⟩) ∧ N ≤ x ∧ x < w.heap.size ∧ Blk w x cells) (hs : StayD (fun _ => True) w w') :
    ∃ x', (b = false → w'.heap.size ≤ x') ∧ (b = true → u = .pointer (some ⟨x', 0, none⟩) ∧ N ≤ x' ∧ x' < w'.heap.size ∧ Blk w' x' cells) ∧ (∀ c, c < w.heap.size → c ≠ x → c ≠ x') ∧ (∀ c, w.heap.size ≤ c → c < w'.heap.size → c ≠ x') := by
  cases b with
  | true =>
    obtain ⟨e, n, l, k⟩ := h2 rfl
    exact ⟨x, (fun h => by cases h), (fun _ => ⟨e, n, Nat.lt_of_lt_of_le l hs.1, k.ofb (hs.2 x l trivial)⟩), (fun _ _ h => h), (fun c h _ => by omega)⟩
  | false =>
    exact ⟨w'.heap.size, (fun _ => Nat.le_refl _), (fun h => by cases h), (fun c h _ => by have := hs.1; omega), (fun c _ h => by omega)⟩

/-- What is known of each slot that the region LoopA writes. -/
def LoopA (lo x : Nat) (F : Nat) (fn : ByteArray) : Nat → Value → World → Prop
  | 0, v, _ => v = .pointer (some ⟨F, 0, none⟩)
  | 1, v, _ => v = .string fn
  | 2, v, w => ∃ e : TE, KeepE (fun b => lo ≤ b ∧ b ≠ x) 1 w v e ∧ e.wt ≤ 10
  | 3, v, w => ∃ e : TE, KeepE (fun b => lo ≤ b ∧ b ≠ x) 1 w v e ∧ e.wt ≤ 10
  | 4, v, w => ∃ (g : Nat) (kids : List TE), v = .slice (some ⟨g, 0, none⟩) 2 2 ∧ kids.length = 2 ∧ KpD (fun b => lo ≤ b ∧ b ≠ x) w (fun W => IsKids (IsE W 0 W.heap.size 1) W 0 W.heap.size (some ⟨g, 0, none⟩) kids) ∧ wtL kids ≤ 30
  | 5, v, w => ∃ e : TE, KeepE (fun b => lo ≤ b ∧ b ≠ x) 2 w v e ∧ e.wt ≤ 40
  | 6, v, w => ∃ (g : Nat) (kids : List TE), v = .slice (some ⟨g, 0, none⟩) 1 1 ∧ kids.length = 1 ∧ KpD (fun b => lo ≤ b ∧ b ≠ x) w (fun W => IsKids (IsE W 0 W.heap.size 2) W 0 W.heap.size (some ⟨g, 0, none⟩) kids) ∧ wtL kids ≤ 50
  | 7, v, w => ∃ e : TE, KeepE (fun b => lo ≤ b ∧ b ≠ x) 3 w v e ∧ e.wt ≤ 100
  | _, _, _ => True
theorem LoopA.stay {lo x : Nat} {F : Nat} {fn : ByteArray} {w w' : World} (hs : StayD (fun _ => True) w w') (hl0 : ∀ b, lo ≤ b ∧ b ≠ x → (fun _ => True) b) : ∀ (j : Nat) (v : Value), LoopA lo x F fn j v w → LoopA lo x F fn j v w' := by
  have hl : StayD (fun b => lo ≤ b ∧ b ≠ x) w w' := hs.less (fun b _ h => hl0 b h)
  intro j v h
  match j, h with
  | 0, h => exact h
  | 1, h => exact h
  | 2, h => obtain ⟨e, h1, h2⟩ := h; exact ⟨e, h1.stay hl, h2⟩
  | 3, h => obtain ⟨e, h1, h2⟩ := h; exact ⟨e, h1.stay hl, h2⟩
  | 4, h => obtain ⟨g, kids, h1, h2, h3, h4⟩ := h; exact ⟨g, kids, h1, h2, h3.stay hl, h4⟩
  | 5, h => obtain ⟨e, h1, h2⟩ := h; exact ⟨e, h1.stay hl, h2⟩
  | 6, h => obtain ⟨g, kids, h1, h2, h3, h4⟩ := h; exact ⟨g, kids, h1, h2, h3.stay hl, h4⟩
  | 7, h => obtain ⟨e, h1, h2⟩ := h; exact ⟨e, h1.stay hl, h2⟩
  | j + 8, _ => trivial
theorem LoopA.move {lo x x' : Nat} {F : Nat} {fn : ByteArray} {w : World} (hx : ∀ b, b < w.heap.size → b ≠ x → b ≠ x') : ∀ (j : Nat) (v : Value), LoopA lo x F fn j v w → LoopA lo x' F fn j v w := by
  have hm : ∀ b, b < w.heap.size → (lo ≤ b ∧ b ≠ x) → (lo ≤ b ∧ b ≠ x') := fun b h1 h2 => ⟨h2.1, hx b h1 h2.2⟩
  intro j v h
  match j, h with
  | 0, h => exact h
  | 1, h => exact h
  | 2, h => obtain ⟨e, h1, h2⟩ := h; exact ⟨e, h1.less hm, h2⟩
  | 3, h => obtain ⟨e, h1, h2⟩ := h; exact ⟨e, h1.less hm, h2⟩
  | 4, h => obtain ⟨g, kids, h1, h2, h3, h4⟩ := h; exact ⟨g, kids, h1, h2, h3.less hm, h4⟩
  | 5, h => obtain ⟨e, h1, h2⟩ := h; exact ⟨e, h1.less hm, h2⟩
  | 6, h => obtain ⟨g, kids, h1, h2, h3, h4⟩ := h; exact ⟨g, kids, h1, h2, h3.less hm, h4⟩
  | 7, h => obtain ⟨e, h1, h2⟩ := h; exact ⟨e, h1.less hm, h2⟩
  | j + 8, _ => trivial

/-- What is known of each slot that the region LoopB writes. -/
def LoopB (lo x : Nat) (BW SW : Nat) : Nat → Value → World → Prop
  | 0, v, w => ∃ e : TE, KeepE (fun b => lo ≤ b ∧ b ≠ x) 1 w v e ∧ e.wt ≤ 10
  | 1, v, w => ∃ e : TE, KeepE (fun b => lo ≤ b ∧ b ≠ x) 1 w v e ∧ e.wt ≤ 10
  | 2, v, w => ∃ (g : Nat) (kids : List TE), v = .slice (some ⟨g, 0, none⟩) 2 2 ∧ kids.length = 2 ∧ KpD (fun b => lo ≤ b ∧ b ≠ x) w (fun W => IsKids (IsE W 0 W.heap.size 1) W 0 W.heap.size (some ⟨g, 0, none⟩) kids) ∧ wtL kids ≤ 30
  | 3, v, w => ∃ e : TE, KeepE (fun b => lo ≤ b ∧ b ≠ x) 2 w v e ∧ e.wt ≤ 40
  | 4, v, w => ∃ e : TE, KeepE (fun b => lo ≤ b ∧ b ≠ x) 2 w v e ∧ e.wt ≤ BW
  | 5, v, w => ∃ e : TE, KeepE (fun b => lo ≤ b ∧ b ≠ x) 2 w v e ∧ e.wt ≤ SW
  | 6, v, w => ∃ e : TE, KeepE (fun b => lo ≤ b ∧ b ≠ x) 3 w v e ∧ e.wt ≤ 100
  | 7, v, w => ∃ (g : Nat) (kids : List TE), v = .slice (some ⟨g, 0, none⟩) 2 2 ∧ kids.length = 2 ∧ KpD (fun b => lo ≤ b ∧ b ≠ x) w (fun W => IsKids (IsE W 0 W.heap.size 3) W 0 W.heap.size (some ⟨g, 0, none⟩) kids) ∧ wtL kids ≤ (102 + SW)
  | 8, v, w => ∃ e : TE, KeepE (fun b => lo ≤ b ∧ b ≠ x) 4 w v e ∧ e.wt ≤ (110 + SW)
  | 9, v, w => ∃ (g : Nat) (kids : List TE), v = .slice (some ⟨g, 0, none⟩) 3 3 ∧ kids.length = 3 ∧ KpD (fun b => lo ≤ b ∧ b ≠ x) w (fun W => IsKids (IsE W 0 W.heap.size 4) W 0 W.heap.size (some ⟨g, 0, none⟩) kids) ∧ wtL kids ≤ (160 + SW + BW)
  | 10, v, w => ∃ e : TE, KeepE (fun b => lo ≤ b ∧ b ≠ x) 5 w v e ∧ e.wt ≤ (170 + SW + BW)
  | _, _, _ => True
theorem LoopB.stay {lo x : Nat} {BW SW : Nat} {w w' : World} (hs : StayD (fun _ => True) w w') (hl0 : ∀ b, lo ≤ b ∧ b ≠ x → (fun _ => True) b) : ∀ (j : Nat) (v : Value), LoopB lo x BW SW j v w → LoopB lo x BW SW j v w' := by
  have hl : StayD (fun b => lo ≤ b ∧ b ≠ x) w w' := hs.less (fun b _ h => hl0 b h)
  intro j v h
  match j, h with
  | 0, h => obtain ⟨e, h1, h2⟩ := h; exact ⟨e, h1.stay hl, h2⟩
  | 1, h => obtain ⟨e, h1, h2⟩ := h; exact ⟨e, h1.stay hl, h2⟩
  | 2, h => obtain ⟨g, kids, h1, h2, h3, h4⟩ := h; exact ⟨g, kids, h1, h2, h3.stay hl, h4⟩
  | 3, h => obtain ⟨e, h1, h2⟩ := h; exact ⟨e, h1.stay hl, h2⟩
  | 4, h => obtain ⟨e, h1, h2⟩ := h; exact ⟨e, h1.stay hl, h2⟩
  | 5, h => obtain ⟨e, h1, h2⟩ := h; exact ⟨e, h1.stay hl, h2⟩
  | 6, h => obtain ⟨e, h1, h2⟩ := h; exact ⟨e, h1.stay hl, h2⟩
  | 7, h => obtain ⟨g, kids, h1, h2, h3, h4⟩ := h; exact ⟨g, kids, h1, h2, h3.stay hl, h4⟩
  | 8, h => obtain ⟨e, h1, h2⟩ := h; exact ⟨e, h1.stay hl, h2⟩
  | 9, h => obtain ⟨g, kids, h1, h2, h3, h4⟩ := h; exact ⟨g, kids, h1, h2, h3.stay hl, h4⟩
  | 10, h => obtain ⟨e, h1, h2⟩ := h; exact ⟨e, h1.stay hl, h2⟩
  | j + 11, _ => trivial

set_option maxRecDepth 100000 in
set_option maxHeartbeats 8000000 in
theorem l22Loop_any (lo : Nat) (fn : ByteArray) (pb : Bool) (aa : Option Addr) (ca : Nat) (a0 : TA) (rest : List TA) (ty : Int) (t0 t1 : Int) (t2 t3 : ByteArray) (t4 : Option Addr) (t5 t6 : Nat) (vb vs : Value) (base step : TE) (w : World)
    (hlo : lo ≤ w.heap.size) (hA : IsArgs (IsArg w 0 w.heap.size) w 0 w.heap.size aa (a0 :: rest)) (hf : fn.size ≤ 8) (hn : a0.name.size ≤ 8) (hb : KeepE (fun b => lo ≤ b) 2 w vb base) (hs : KeepE (fun b => lo ≤ b) 2 w vs step) :
    Calls Tryz.prog 54 #[.agg #[.string fn, .bool pb, .slice aa (rest.length + 1) ca, .int .i64 ty, .int .i64 t0, .int .i64 t1, .string t2, .string t3, .slice t4 t5 t6], vb, vs] w fun r w' => ∃ (v : Value) (e : TE), r = .returned v ∧ KeepE (fun b => lo ≤ b ∧ b ≠ w.heap.size + 3) 5 w' v e ∧ e.wt ≤ 170 + step.wt + base.wt ∧ Below w.heap.size w w' := by
  obtain ⟨p0, p1, p2, p3, p4, p5, p6, rfl⟩ := IsE.five hb.now
  obtain ⟨s0, s1, s2, s3, s4, s5, s6, rfl⟩ := IsE.five hs.now
  rcases hA with hA | ⟨g, off, rfl, -, hg, hcs⟩
  · cases hA
  obtain ⟨c0, c1, d0, d1, hr⟩ := hcs 0 (by simp)
  have hr : Value.agg #[c0, c1] = .agg #[.string a0.name, .int .i64 a0.type] := hr.1
  simp only [Value.agg.injEq, Array.mk.injEq, List.cons.injEq, and_true] at hr
  obtain ⟨rfl, rfl⟩ := hr
  obtain ⟨nm0, hnm0⟩ : ∃ nm0, a0.name = nm0 := ⟨_, rfl⟩
  rw [hnm0] at d0 hn
  simp only [Nat.zero_mul, Nat.add_zero] at d0
  clear d1 hcs hnm0
  obtain ⟨H, hH⟩ : ∃ H, w.heap.size = H := ⟨_, rfl⟩
  obtain ⟨W1, hW1⟩ : ∃ W1, W1 = ((((w.alloc (.cells #[.string fn, .bool pb, .slice (some ⟨g, off, none⟩) (rest.length + 1) ca, .int .i64 ty, .int .i64 t0, .int .i64 t1, .string t2, .string t3, .slice t4 t5 t6] 33)).alloc (.cells #[.int .i64 p0, .int .i64 p1, .string p2, .string p3, .slice p4 p5 p6] 31)).alloc (.cells #[.int .i64 s0, .int .i64 s1, .string s2, .string s3, .slice s4 s5 s6] 31)).alloc (.cells #[.int .i64 0, .int .i64 0, .string ⟨#[]⟩, .string ⟨#[]⟩, .slice none 0 0] 31)).alloc (.cells #[.int .i64 3, .int .i64 0, .string nm0, .string ⟨#[]⟩, .slice none 0 0] 31) := ⟨_, rfl⟩
  have hb1 : Below w.heap.size w W1 := by rw [hW1]; exact (((((Below.refl _ _).alloc (Nat.le_refl _) _).alloc (by simp <;> omega) _).alloc (by simp <;> omega) _).alloc (by simp <;> omega) _).alloc (by simp <;> omega) _
  have hsz : W1.heap.size = H + 5 := by rw [hW1, ← hH]; simp
  have hF : W1.cell? ⟨H, 0, none⟩ = some (.string fn) := by
    rw [hW1, ← hH]
    exact (((((Blk.new w [.string fn, .bool pb, .slice (some ⟨g, off, none⟩) (rest.length + 1) ca, .int .i64 ty, .int .i64 t0, .int .i64 t1, .string t2, .string t3, .slice t4 t5 t6] 33).old _ (by simp <;> omega)).old _ (by simp <;> omega)).old _ (by simp <;> omega)).old _ (by simp <;> omega)).1 0
  have hPB : Blk W1 (H + 1) [.int .i64 p0, .int .i64 p1, .string p2, .string p3, .slice p4 p5 p6] := by
    have := ((((Blk.new (w.alloc (.cells #[.string fn, .bool pb, .slice (some ⟨g, off, none⟩) (rest.length + 1) ca, .int .i64 ty, .int .i64 t0, .int .i64 t1, .string t2, .string t3, .slice t4 t5 t6] 33)) [.int .i64 p0, .int .i64 p1, .string p2, .string p3, .slice p4 p5 p6] 31).old (.cells #[.int .i64 s0, .int .i64 s1, .string s2, .string s3, .slice s4 s5 s6] 31) (by simp <;> omega)).old (.cells #[.int .i64 0, .int .i64 0, .string ⟨#[]⟩, .string ⟨#[]⟩, .slice none 0 0] 31) (by simp <;> omega)).old (.cells #[.int .i64 3, .int .i64 0, .string nm0, .string ⟨#[]⟩, .slice none 0 0] 31) (by simp <;> omega))
    rw [alloc_size, hH] at this
    rw [hW1]; exact this
  have hSB : Blk W1 (H + 2) [.int .i64 s0, .int .i64 s1, .string s2, .string s3, .slice s4 s5 s6] := by
    have := (((Blk.new ((w.alloc (.cells #[.string fn, .bool pb, .slice (some ⟨g, off, none⟩) (rest.length + 1) ca, .int .i64 ty, .int .i64 t0, .int .i64 t1, .string t2, .string t3, .slice t4 t5 t6] 33)).alloc (.cells #[.int .i64 p0, .int .i64 p1, .string p2, .string p3, .slice p4 p5 p6] 31)) [.int .i64 s0, .int .i64 s1, .string s2, .string s3, .slice s4 s5 s6] 31).old (.cells #[.int .i64 0, .int .i64 0, .string ⟨#[]⟩, .string ⟨#[]⟩, .slice none 0 0] 31) (by simp <;> omega)).old (.cells #[.int .i64 3, .int .i64 0, .string nm0, .string ⟨#[]⟩, .slice none 0 0] 31) (by simp <;> omega))
    rw [alloc_size, alloc_size, hH] at this
    rw [hW1]; exact this
  have hMB : Blk W1 (H + 3) [.int .i64 0, .int .i64 0, .string ⟨#[]⟩, .string ⟨#[]⟩, .slice none 0 0] := by
    have := ((Blk.new (((w.alloc (.cells #[.string fn, .bool pb, .slice (some ⟨g, off, none⟩) (rest.length + 1) ca, .int .i64 ty, .int .i64 t0, .int .i64 t1, .string t2, .string t3, .slice t4 t5 t6] 33)).alloc (.cells #[.int .i64 p0, .int .i64 p1, .string p2, .string p3, .slice p4 p5 p6] 31)).alloc (.cells #[.int .i64 s0, .int .i64 s1, .string s2, .string s3, .slice s4 s5 s6] 31)) [.int .i64 0, .int .i64 0, .string ⟨#[]⟩, .string ⟨#[]⟩, .slice none 0 0] 31).old (.cells #[.int .i64 3, .int .i64 0, .string nm0, .string ⟨#[]⟩, .slice none 0 0] 31) (by simp <;> omega))
    rw [alloc_size, alloc_size, alloc_size, hH] at this
    rw [hW1]; exact this
  have hNB : Blk W1 (H + 4) [.int .i64 3, .int .i64 0, .string nm0, .string ⟨#[]⟩, .slice none 0 0] := by
    have := Blk.new ((((w.alloc (.cells #[.string fn, .bool pb, .slice (some ⟨g, off, none⟩) (rest.length + 1) ca, .int .i64 ty, .int .i64 t0, .int .i64 t1, .string t2, .string t3, .slice t4 t5 t6] 33)).alloc (.cells #[.int .i64 p0, .int .i64 p1, .string p2, .string p3, .slice p4 p5 p6] 31)).alloc (.cells #[.int .i64 s0, .int .i64 s1, .string s2, .string s3, .slice s4 s5 s6] 31)).alloc (.cells #[.int .i64 0, .int .i64 0, .string ⟨#[]⟩, .string ⟨#[]⟩, .slice none 0 0] 31)) [.int .i64 3, .int .i64 0, .string nm0, .string ⟨#[]⟩, .slice none 0 0] 31
    rw [alloc_size, alloc_size, alloc_size, alloc_size, hH] at this
    rw [hW1]; exact this
  have hbe : KeepE (fun b => lo ≤ b ∧ b ≠ H + 3) 2 W1 (.agg #[.int .i64 p0, .int .i64 p1, .string p2, .string p3, .slice p4 p5 p6]) base := (hb.less (fun b h1 h2 => ⟨h2, by omega⟩)).stay (StayD.below hb1)
  have hse : KeepE (fun b => lo ≤ b ∧ b ≠ H + 3) 2 W1 (.agg #[.int .i64 s0, .int .i64 s1, .string s2, .string s3, .slice s4 s5 s6]) step := (hs.less (fun b h1 h2 => ⟨h2, by omega⟩)).stay (StayD.below hb1)
  have HNM := hide hn
  have HFS := hide hf
  have HBW := hide hb1
  have HSZ := hide hsz
  have HHH := hide hH
  have HLOH : Hid (lo ≤ H) := hide (by omega)
  have HBE1 := hide hbe
  have HSE1 := hide hse
  have HPB1 := hide hPB
  have HSB1 := hide hSB
  have HMB1 := hide hMB
  have HNB1 := hide hNB
  have HF1 := hide hF
  clear hn hf hb1 hsz hbe hse hPB hSB hMB hNB hF hb hs hlo
  have d4 : ∀ o1 o2 o3 o4 : Obj, ((((w.alloc o1).alloc o2).alloc o3).alloc o4).cell? ⟨g, off, none⟩ = some (.string nm0) := fun o1 o2 o3 o4 =>
    ((((((Below.refl w.heap.size w).alloc (Nat.le_refl _) o1).alloc (by simp) o2).alloc (by simp <;> omega) o3).alloc (by simp <;> omega) o4).cell (p := ⟨g, off, none⟩) hg).trans d0
  clear d0
  go_enter Tryz.func54, Tryz.ntmps54
  go_wp2
  rw [← hW1]
  clear hW1 hH d4 hg
  obtain ⟨lo2, hlo2⟩ : ∃ lo2, lo2 = W1.heap.size := ⟨_, rfl⟩
  obtain ⟨F, hFF⟩ : ∃ F, F = H := ⟨_, rfl⟩
  obtain ⟨NB, hNN⟩ : ∃ NB, NB = H + 4 := ⟨_, rfl⟩
  have HLO : Hid (lo2 ≤ W1.heap.size) := hide (Nat.le_of_eq hlo2)
  have HFL : Hid (F < W1.heap.size) := hide (by rw [unhide HSZ]; omega)
  have HFN : Hid (W1.cell? ⟨F, 0, none⟩ = some (.string fn)) := hide (by rw [hFF]; exact unhide HF1)
  have HNBL : Hid (NB < W1.heap.size) := hide (by rw [unhide HSZ]; omega)
  have HNB : Hid (Blk W1 NB [.int .i64 3, .int .i64 0, .string nm0, .string ⟨#[]⟩, .slice none 0 0]) := hide (by rw [hNN]; exact unhide HNB1)
  have HL2 : Hid (lo2 = H + 5) := hide (by rw [hlo2]; exact unhide HSZ)
  rw [← hNN]
  have hFF2 := hide hFF
  have hNN2 := hide hNN
  rw [show (Value.pointer (some ⟨H, 0, none⟩)) = .pointer (some ⟨F, 0, none⟩) by rw [hFF]]
  clear hFF hNN hlo2
  refine wp_region_inv (by kernel_rfl) (fun k => decide (8 ≤ k) && decide (k ≤ 22)) (fun L us w => (L 9 = false → Below W1.heap.size W1 w ∧ ∃ x, (L 8 = false → w.heap.size ≤ x) ∧ (L 8 = true → us 8 = .pointer (some ⟨x, 0, none⟩) ∧ W1.heap.size ≤ x ∧ x < w.heap.size ∧ Blk w x [.int .i64 0, .int .i64 0, .string ⟨#[]⟩, .string ⟨#[]⟩, .slice none 0 0]) ∧ Cl (LoopA lo2 x F fn) (fun j => 15 + j) L us w) ∧
          (L 9 = true → ∃ (x : Nat) (a7 b7 : Int) (c7 x7 : ByteArray) (y7 : Option Addr) (l7 z7 : Nat) (e7 : TE), us 8 = .pointer (some ⟨x, 0, none⟩) ∧ W1.heap.size ≤ x ∧ x < w.heap.size ∧ Blk w x [.int .i64 a7, .int .i64 b7, .string c7, .string x7, .slice y7 l7 z7] ∧ KeepE (fun b => lo2 ≤ b ∧ b ≠ x) 3 w (.agg #[.int .i64 a7, .int .i64 b7, .string c7, .string x7, .slice y7 l7 z7]) e7 ∧ e7.wt ≤ 100 ∧ Below W1.heap.size W1 w)) (by kernel_rfl) ?_ ?_ ?_
  · refine ⟨fun _ => ⟨(Below.refl _ W1).drew, W1.heap.size, (fun _ => Nat.le_refl _), (fun h => by simp at h), fun j hj => ?_⟩, (fun h => by simp at h)⟩
    have hj2 : 10 ≤ j := of_decide_eq_true hj
    obtain ⟨m, rfl⟩ : ∃ m, j = m + 8 := ⟨j - 8, by omega⟩
    trivial
  · refine ⟨?_, ?_, ?_, ?_, ?_, ?_, ?_, ?_, ?_, ?_, trivial⟩
    -- operation 0
    · rintro L us w ⟨hA, -⟩ hl hdep hbh hup K hK
      have hlast : L 9 = false := hbh 9 (by kernel_rfl)
      have hnl : updL L 0 9 = false := (updL_other _ _ _ (by decide)).trans hlast
      obtain ⟨hst, x, hx1, hx2, hcl⟩ := hA hlast
      have hnx : updL L 0 8 = L 8 := updL_other _ _ _ (by decide)
      have HST := hide hst
      have HCL := hide hcl
      have HX1 := hide hx1
      have HX2 := hide hx2
      clear hst hcl hA hdep hbh hup hl hlast hx1 hx2
      simp only [frmFrom, Nat.reduceAdd, Nat.reduceLeDiff, decide_true, decide_false, Bool.and_true, Bool.and_false, if_true, if_false, Bool.false_eq_true]
      go_simp
      refine hK _ _ ⟨updU us 15 (.pointer (some ⟨F, 0, none⟩)), by simp [frmFrom, updU], fun _ => ?_, (fun h => by rw [hnl] at h; cases h)⟩
      have hb2 : Below w.heap.size w (w) := Below.refl _ _
      have hs2 : StayD (fun _ => True) w (w) := StayD.below hb2
      obtain ⟨x', hy1, hy2, hy3, hy4⟩ := stepX (unhide HX1) (unhide HX2) hs2
      exact ⟨(unhide HST).trans (hb2.mono (unhide HST).size), x', (fun h => hy1 (hnx.symm.trans h)), (fun h => by rw [updU_other _ _ _ _ (by decide)]; exact hy2 (hnx.symm.trans h)), Cl.put (C := LoopA lo2 x' F fn) (fun j hj => LoopA.move hy3 j _ (unhide HCL j hj)) (fun j v h => LoopA.stay hs2 (fun _ _ => trivial) j v h) (rfl) (fun j hj => by omega)⟩
    -- operation 1
    · rintro L us w ⟨hA, -⟩ hl hdep hbh hup K hK
      have hlast : L 9 = false := hbh 9 (by kernel_rfl)
      have hnl : updL L 1 9 = false := (updL_other _ _ _ (by decide)).trans hlast
      obtain ⟨hst, x, hx1, hx2, hcl⟩ := hA hlast
      have hnx : updL L 1 8 = L 8 := updL_other _ _ _ (by decide)
      have d0 : us 15 = _ := hcl 0 (hup 0 (by decide) (by kernel_rfl))
      have e0 : w.cell? ⟨F, 0, none⟩ = some (.string fn) := (World.cell?_of_block (w := W1) (a := ⟨F, 0, none⟩) (hst.block F (unhide HFL))).trans (unhide HFN)
      have HST := hide hst
      have HCL := hide hcl
      have HX1 := hide hx1
      have HX2 := hide hx2
      clear hst hcl hA hdep hbh hup hl hlast hx1 hx2
      simp only [frmFrom, Nat.reduceAdd, Nat.reduceLeDiff, decide_true, decide_false, Bool.and_true, Bool.and_false, if_true, if_false, Bool.false_eq_true]
      go_simp
      refine hK _ _ ⟨updU us 16 (.string fn), by simp [frmFrom, updU, d0], fun _ => ?_, (fun h => by rw [hnl] at h; cases h)⟩
      have hb2 : Below w.heap.size w (w) := Below.refl _ _
      have hs2 : StayD (fun _ => True) w (w) := StayD.below hb2
      obtain ⟨x', hy1, hy2, hy3, hy4⟩ := stepX (unhide HX1) (unhide HX2) hs2
      exact ⟨(unhide HST).trans (hb2.mono (unhide HST).size), x', (fun h => hy1 (hnx.symm.trans h)), (fun h => by rw [updU_other _ _ _ _ (by decide)]; exact hy2 (hnx.symm.trans h)), Cl.put (C := LoopA lo2 x' F fn) (fun j hj => LoopA.move hy3 j _ (unhide HCL j hj)) (fun j v h => LoopA.stay hs2 (fun _ _ => trivial) j v h) (rfl) (fun j hj => by omega)⟩
    -- operation 2
    · rintro L us w ⟨hA, -⟩ hl hdep hbh hup K hK
      have hlast : L 9 = false := hbh 9 (by kernel_rfl)
      have hnl : updL L 2 9 = false := (updL_other _ _ _ (by decide)).trans hlast
      obtain ⟨hst, x, hx1, hx2, hcl⟩ := hA hlast
      have hnx : updL L 2 8 = L 8 := updL_other _ _ _ (by decide)
      have q0 : w.cell? ⟨NB, 0, none⟩ = some (.int .i64 3) := (World.cell?_of_block (w := W1) (a := ⟨NB, 0, none⟩) (hst.block NB (unhide HNBL))).trans ((unhide HNB).1 0)
      have q1 : w.cell? ⟨NB, 1, none⟩ = some (.int .i64 0) := (World.cell?_of_block (w := W1) (a := ⟨NB, 1, none⟩) (hst.block NB (unhide HNBL))).trans ((unhide HNB).1 1)
      have q2 : w.cell? ⟨NB, 2, none⟩ = some (.string nm0) := (World.cell?_of_block (w := W1) (a := ⟨NB, 2, none⟩) (hst.block NB (unhide HNBL))).trans ((unhide HNB).1 2)
      have q3 : w.cell? ⟨NB, 3, none⟩ = some (.string ⟨#[]⟩) := (World.cell?_of_block (w := W1) (a := ⟨NB, 3, none⟩) (hst.block NB (unhide HNBL))).trans ((unhide HNB).1 3)
      have q4 : w.cell? ⟨NB, 4, none⟩ = some (.slice none 0 0) := (World.cell?_of_block (w := W1) (a := ⟨NB, 4, none⟩) (hst.block NB (unhide HNBL))).trans ((unhide HNB).1 4)
      have HST := hide hst
      have HCL := hide hcl
      have HX1 := hide hx1
      have HX2 := hide hx2
      clear hst hcl hA hdep hbh hup hl hlast hx1 hx2
      simp only [frmFrom, Nat.reduceAdd, Nat.reduceLeDiff, decide_true, decide_false, Bool.and_true, Bool.and_false, if_true, if_false, Bool.false_eq_true]
      go_simp
      refine hK _ _ ⟨updU us 17 (.agg #[.int .i64 3, .int .i64 0, .string nm0, .string ⟨#[]⟩, .slice none 0 0]), by simp [frmFrom, updU], fun _ => ?_, (fun h => by rw [hnl] at h; cases h)⟩
      have hb2 : Below w.heap.size w (w) := Below.refl _ _
      have hs2 : StayD (fun _ => True) w (w) := StayD.below hb2
      obtain ⟨x', hy1, hy2, hy3, hy4⟩ := stepX (unhide HX1) (unhide HX2) hs2
      exact ⟨(unhide HST).trans (hb2.mono (unhide HST).size), x', (fun h => hy1 (hnx.symm.trans h)), (fun h => by rw [updU_other _ _ _ _ (by decide)]; exact hy2 (hnx.symm.trans h)), Cl.put (C := LoopA lo2 x' F fn) (fun j hj => LoopA.move hy3 j _ (unhide HCL j hj)) (fun j v h => LoopA.stay hs2 (fun _ _ => trivial) j v h) (⟨.node 3 0 nm0 ⟨#[]⟩ [], keepE_leaf (by have := unhide HNM; omega) (Nat.zero_le _), by have := unhide HNM; simp [TE.wt, wtL, emp_size]; omega⟩) (fun j hj => by omega)⟩
    -- operation 3
    · rintro L us w ⟨hA, -⟩ hl hdep hbh hup K hK
      have hlast : L 9 = false := hbh 9 (by kernel_rfl)
      have hnl : updL L 3 9 = false := (updL_other _ _ _ (by decide)).trans hlast
      obtain ⟨hst, x, hx1, hx2, hcl⟩ := hA hlast
      have hnx : updL L 3 8 = L 8 := updL_other _ _ _ (by decide)
      have HST := hide hst
      have HCL := hide hcl
      have HX1 := hide hx1
      have HX2 := hide hx2
      clear hst hcl hA hdep hbh hup hl hlast hx1 hx2
      simp only [frmFrom, Nat.reduceAdd, Nat.reduceLeDiff, decide_true, decide_false, Bool.and_true, Bool.and_false, if_true, if_false, Bool.false_eq_true]
      go_simp
      refine (l22NumE_any 1 w).mono ?_
      rintro r w5 ⟨rfl, hb5⟩
      go_simp
      refine hK _ _ ⟨updU us 18 (.agg #[.int .i64 1, .int .i64 1, .string ⟨#[]⟩, .string ⟨#[]⟩, .slice none 0 0]), by simp [frmFrom, updU], fun _ => ?_, (fun h => by rw [hnl] at h; cases h)⟩
      have hb2 : Below w.heap.size w (w5) := hb5
      have hs2 : StayD (fun _ => True) w (w5) := StayD.below hb2
      obtain ⟨x', hy1, hy2, hy3, hy4⟩ := stepX (unhide HX1) (unhide HX2) hs2
      exact ⟨(unhide HST).trans (hb2.mono (unhide HST).size), x', (fun h => hy1 (hnx.symm.trans h)), (fun h => by rw [updU_other _ _ _ _ (by decide)]; exact hy2 (hnx.symm.trans h)), Cl.put (C := LoopA lo2 x' F fn) (fun j hj => LoopA.move hy3 j _ (unhide HCL j hj)) (fun j v h => LoopA.stay hs2 (fun _ _ => trivial) j v h) (⟨.node 1 1 ⟨#[]⟩ ⟨#[]⟩ [], keepE_leaf (Nat.zero_le _) (Nat.zero_le _), by simp [TE.wt, wtL, emp_size]⟩) (fun j hj => by omega)⟩
    -- operation 4
    · rintro L us w ⟨hA, -⟩ hl hdep hbh hup K hK
      have hlast : L 9 = false := hbh 9 (by kernel_rfl)
      have hnl : updL L 4 9 = false := (updL_other _ _ _ (by decide)).trans hlast
      obtain ⟨hst, x, hx1, hx2, hcl⟩ := hA hlast
      have hnx : updL L 4 8 = L 8 := updL_other _ _ _ (by decide)
      obtain ⟨e2, k2, n2⟩ := hcl 2 (hup 2 (by decide) (by kernel_rfl))
      obtain ⟨a2, b2, c2, x2, y2, l2, z2, d2⟩ := IsE.five k2.now
      have d2 : us 17 = _ := d2
      have k2 : KeepE (fun b => lo2 ≤ b ∧ b ≠ x) _ w (.agg #[.int .i64 a2, .int .i64 b2, .string c2, .string x2, .slice y2 l2 z2]) e2 := d2 ▸ k2
      obtain ⟨e3, k3, n3⟩ := hcl 3 (hup 3 (by decide) (by kernel_rfl))
      obtain ⟨a3, b3, c3, x3, y3, l3, z3, d3⟩ := IsE.five k3.now
      have d3 : us 18 = _ := d3
      have k3 : KeepE (fun b => lo2 ≤ b ∧ b ≠ x) _ w (.agg #[.int .i64 a3, .int .i64 b3, .string c3, .string x3, .slice y3 l3 z3]) e3 := d3 ▸ k3
      have HST := hide hst
      have HCL := hide hcl
      have HX1 := hide hx1
      have HX2 := hide hx2
      clear hst hcl hA hdep hbh hup hl hlast hx1 hx2
      simp only [frmFrom, Nat.reduceAdd, Nat.reduceLeDiff, decide_true, decide_false, Bool.and_true, Bool.and_false, if_true, if_false, Bool.false_eq_true]
      go_simp
      refine hK _ _ ⟨updU us 19 (.slice (some ⟨w.heap.size, 0, none⟩) 2 2), by simp [frmFrom, updU, d2, d3], fun _ => ?_, (fun h => by rw [hnl] at h; cases h)⟩
      have hb2 : Below w.heap.size w (w.alloc (.cells #[.int .i64 a2, .int .i64 b2, .string c2, .string x2, .slice y2 l2 z2, .int .i64 a3, .int .i64 b3, .string c3, .string x3, .slice y3 l3 z3] 31)) := below_one w _
      have hs2 : StayD (fun _ => True) w (w.alloc (.cells #[.int .i64 a2, .int .i64 b2, .string c2, .string x2, .slice y2 l2 z2, .int .i64 a3, .int .i64 b3, .string c3, .string x3, .slice y3 l3 z3] 31)) := StayD.below hb2
      obtain ⟨x', hy1, hy2, hy3, hy4⟩ := stepX (unhide HX1) (unhide HX2) hs2
      have hkp := lit_alloc (h := 1) (S := fun b => lo2 ≤ b ∧ b ≠ x') (w := w) [(e2, [.int .i64 a2, .int .i64 b2, .string c2, .string x2, .slice y2 l2 z2]), (e3, [.int .i64 a3, .int .i64 b3, .string c3, .string x3, .slice y3 l3 z3])] 31 ⟨(by have := (unhide HST).size; have := unhide HLO; omega), (hy4 _ (Nat.le_refl _) (by rw [alloc_size]; omega))⟩ (by
        intro p hp
        simp only [List.mem_cons, List.not_mem_nil, or_false] at hp
        rcases hp with rfl | rfl <;> refine ⟨rfl, fun u hu => ?_⟩ <;> simp only [List.mem_cons, List.not_mem_nil, or_false] at hu <;> rcases hu with rfl | rfl | rfl | rfl | rfl <;> rfl) (by
        intro p hp
        simp only [List.mem_cons, List.not_mem_nil, or_false] at hp
        rcases hp with rfl | rfl
        · exact (k2.less (fun b h1 h2 => ⟨h2.1, hy3 b h1 h2.2⟩)).imp (fun W hW => EltE.of (hW.ups (by omega)))
        · exact (k3.less (fun b h1 h2 => ⟨h2.1, hy3 b h1 h2.2⟩)).imp (fun W hW => EltE.of (hW.ups (by omega))))
      exact ⟨(unhide HST).trans (hb2.mono (unhide HST).size), x', (fun h => hy1 (hnx.symm.trans h)), (fun h => by rw [updU_other _ _ _ _ (by decide)]; exact hy2 (hnx.symm.trans h)), Cl.put (C := LoopA lo2 x' F fn) (fun j hj => LoopA.move hy3 j _ (unhide HCL j hj)) (fun j v h => LoopA.stay hs2 (fun _ _ => trivial) j v h) (⟨w.heap.size, [e2, e3], rfl, rfl, hkp, by simp only [wtL]; omega⟩) (fun j hj => by omega)⟩
    -- operation 5
    · rintro L us w ⟨hA, -⟩ hl hdep hbh hup K hK
      have hlast : L 9 = false := hbh 9 (by kernel_rfl)
      have hnl : updL L 5 9 = false := (updL_other _ _ _ (by decide)).trans hlast
      obtain ⟨hst, x, hx1, hx2, hcl⟩ := hA hlast
      have hnx : updL L 5 8 = L 8 := updL_other _ _ _ (by decide)
      obtain ⟨g4, ks4, d4, q4, p4, n4⟩ := hcl 4 (hup 4 (by decide) (by kernel_rfl))
      have d4 : us 19 = _ := d4
      have HST := hide hst
      have HCL := hide hcl
      have HX1 := hide hx1
      have HX2 := hide hx2
      clear hst hcl hA hdep hbh hup hl hlast hx1 hx2
      simp only [frmFrom, Nat.reduceAdd, Nat.reduceLeDiff, decide_true, decide_false, Bool.and_true, Bool.and_false, if_true, if_false, Bool.false_eq_true]
      go_simp
      refine hK _ _ ⟨updU us 20 (.agg #[.int .i64 4, .int .i64 0, .string ⟨#[45]⟩, .string ⟨#[]⟩, .slice (some ⟨g4, 0, none⟩) 2 2]), by simp [frmFrom, updU, d4], fun _ => ?_, (fun h => by rw [hnl] at h; cases h)⟩
      have hb2 : Below w.heap.size w (w) := Below.refl _ _
      have hs2 : StayD (fun _ => True) w (w) := StayD.below hb2
      obtain ⟨x', hy1, hy2, hy3, hy4⟩ := stepX (unhide HX1) (unhide HX2) hs2
      exact ⟨(unhide HST).trans (hb2.mono (unhide HST).size), x', (fun h => hy1 (hnx.symm.trans h)), (fun h => by rw [updU_other _ _ _ _ (by decide)]; exact hy2 (hnx.symm.trans h)), Cl.put (C := LoopA lo2 x' F fn) (fun j hj => LoopA.move hy3 j _ (unhide HCL j hj)) (fun j v h => LoopA.stay hs2 (fun _ _ => trivial) j v h) (⟨.node 4 0 ⟨#[45]⟩ ⟨#[]⟩ ks4, keepE_node (p4.less (fun b h1 h2 => ⟨h2.1, hy3 b h1 h2.2⟩)) q4 (by omega) (by decide) (Nat.zero_le _), by simp only [TE.wt, emp_size]; have : (⟨#[45]⟩ : ByteArray).size = 1 := rfl; omega⟩) (fun j hj => by omega)⟩
    -- operation 6
    · rintro L us w ⟨hA, -⟩ hl hdep hbh hup K hK
      have hlast : L 9 = false := hbh 9 (by kernel_rfl)
      have hnl : updL L 6 9 = false := (updL_other _ _ _ (by decide)).trans hlast
      obtain ⟨hst, x, hx1, hx2, hcl⟩ := hA hlast
      have hnx : updL L 6 8 = L 8 := updL_other _ _ _ (by decide)
      obtain ⟨e5, k5, n5⟩ := hcl 5 (hup 5 (by decide) (by kernel_rfl))
      obtain ⟨a5, b5, c5, x5, y5, l5, z5, d5⟩ := IsE.five k5.now
      have d5 : us 20 = _ := d5
      have k5 : KeepE (fun b => lo2 ≤ b ∧ b ≠ x) _ w (.agg #[.int .i64 a5, .int .i64 b5, .string c5, .string x5, .slice y5 l5 z5]) e5 := d5 ▸ k5
      have HST := hide hst
      have HCL := hide hcl
      have HX1 := hide hx1
      have HX2 := hide hx2
      clear hst hcl hA hdep hbh hup hl hlast hx1 hx2
      simp only [frmFrom, Nat.reduceAdd, Nat.reduceLeDiff, decide_true, decide_false, Bool.and_true, Bool.and_false, if_true, if_false, Bool.false_eq_true]
      go_simp
      refine hK _ _ ⟨updU us 21 (.slice (some ⟨w.heap.size, 0, none⟩) 1 1), by simp [frmFrom, updU, d5], fun _ => ?_, (fun h => by rw [hnl] at h; cases h)⟩
      have hb2 : Below w.heap.size w (w.alloc (.cells #[.int .i64 a5, .int .i64 b5, .string c5, .string x5, .slice y5 l5 z5] 31)) := below_one w _
      have hs2 : StayD (fun _ => True) w (w.alloc (.cells #[.int .i64 a5, .int .i64 b5, .string c5, .string x5, .slice y5 l5 z5] 31)) := StayD.below hb2
      obtain ⟨x', hy1, hy2, hy3, hy4⟩ := stepX (unhide HX1) (unhide HX2) hs2
      have hkp := lit_alloc (h := 2) (S := fun b => lo2 ≤ b ∧ b ≠ x') (w := w) [(e5, [.int .i64 a5, .int .i64 b5, .string c5, .string x5, .slice y5 l5 z5])] 31 ⟨(by have := (unhide HST).size; have := unhide HLO; omega), (hy4 _ (Nat.le_refl _) (by rw [alloc_size]; omega))⟩ (by
        intro p hp
        simp only [List.mem_cons, List.not_mem_nil, or_false] at hp
        rcases hp with rfl; refine ⟨rfl, fun u hu => ?_⟩ <;> simp only [List.mem_cons, List.not_mem_nil, or_false] at hu <;> rcases hu with rfl | rfl | rfl | rfl | rfl <;> rfl) (by
        intro p hp
        simp only [List.mem_cons, List.not_mem_nil, or_false] at hp
        rcases hp with rfl
        · exact (k5.less (fun b h1 h2 => ⟨h2.1, hy3 b h1 h2.2⟩)).imp (fun W hW => EltE.of (hW.ups (by omega))))
      exact ⟨(unhide HST).trans (hb2.mono (unhide HST).size), x', (fun h => hy1 (hnx.symm.trans h)), (fun h => by rw [updU_other _ _ _ _ (by decide)]; exact hy2 (hnx.symm.trans h)), Cl.put (C := LoopA lo2 x' F fn) (fun j hj => LoopA.move hy3 j _ (unhide HCL j hj)) (fun j v h => LoopA.stay hs2 (fun _ _ => trivial) j v h) (⟨w.heap.size, [e5], rfl, rfl, hkp, by simp only [wtL]; omega⟩) (fun j hj => by omega)⟩
    -- operation 7
    · rintro L us w ⟨hA, -⟩ hl hdep hbh hup K hK
      have hlast : L 9 = false := hbh 9 (by kernel_rfl)
      have hnl : updL L 7 9 = false := (updL_other _ _ _ (by decide)).trans hlast
      obtain ⟨hst, x, hx1, hx2, hcl⟩ := hA hlast
      have hnx : updL L 7 8 = L 8 := updL_other _ _ _ (by decide)
      have d1 : us 16 = _ := hcl 1 (hup 1 (by decide) (by kernel_rfl))
      obtain ⟨g6, ks6, d6, q6, p6, n6⟩ := hcl 6 (hup 6 (by decide) (by kernel_rfl))
      have d6 : us 21 = _ := d6
      have HST := hide hst
      have HCL := hide hcl
      have HX1 := hide hx1
      have HX2 := hide hx2
      clear hst hcl hA hdep hbh hup hl hlast hx1 hx2
      simp only [frmFrom, Nat.reduceAdd, Nat.reduceLeDiff, decide_true, decide_false, Bool.and_true, Bool.and_false, if_true, if_false, Bool.false_eq_true]
      go_simp
      refine hK _ _ ⟨updU us 22 (.agg #[.int .i64 7, .int .i64 0, .string fn, .string ⟨#[]⟩, .slice (some ⟨g6, 0, none⟩) 1 1]), by simp [frmFrom, updU, d1, d6], fun _ => ?_, (fun h => by rw [hnl] at h; cases h)⟩
      have hb2 : Below w.heap.size w (w) := Below.refl _ _
      have hs2 : StayD (fun _ => True) w (w) := StayD.below hb2
      obtain ⟨x', hy1, hy2, hy3, hy4⟩ := stepX (unhide HX1) (unhide HX2) hs2
      exact ⟨(unhide HST).trans (hb2.mono (unhide HST).size), x', (fun h => hy1 (hnx.symm.trans h)), (fun h => by rw [updU_other _ _ _ _ (by decide)]; exact hy2 (hnx.symm.trans h)), Cl.put (C := LoopA lo2 x' F fn) (fun j hj => LoopA.move hy3 j _ (unhide HCL j hj)) (fun j v h => LoopA.stay hs2 (fun _ _ => trivial) j v h) (⟨.node 7 0 fn ⟨#[]⟩ ks6, keepE_node (p6.less (fun b h1 h2 => ⟨h2.1, hy3 b h1 h2.2⟩)) q6 (by omega) (by have := unhide HFS; omega) (Nat.zero_le _), by simp only [TE.wt, emp_size]; have := unhide HFS; omega⟩) (fun j hj => by omega)⟩
    -- operation 8
    · rintro L us w ⟨hA, -⟩ hl hdep hbh hup K hK
      have hlast : L 9 = false := hbh 9 (by kernel_rfl)
      have hnl : updL L 8 9 = false := (updL_other _ _ _ (by decide)).trans hlast
      obtain ⟨hst, x, hx1, hx2, hcl⟩ := hA hlast
      have HST := hide hst
      have HCL := hide hcl
      have HX1 := hide (hx1 hl)
      clear hst hcl hA hdep hbh hup hl hlast hx1 hx2
      simp only [frmFrom, Nat.reduceAdd, Nat.reduceLeDiff, decide_true, decide_false, Bool.and_true, Bool.and_false, if_true, if_false, Bool.false_eq_true]
      go_simp
      refine hK _ _ ⟨updU us 8 (.pointer (some ⟨w.heap.size, 0, none⟩)), by simp [frmFrom, updU], fun _ => ?_, (fun h => by rw [hnl] at h; cases h)⟩
      have hb2 : Below w.heap.size w (w.alloc (.cells #[.int .i64 0, .int .i64 0, .string ⟨#[]⟩, .string ⟨#[]⟩, .slice none 0 0] 31)) := below_one w _
      have hs2 := StayD.below (S := fun _ => True) hb2
      refine ⟨(unhide HST).trans (hb2.mono (unhide HST).size), w.heap.size, (fun h => by rw [updL_same] at h; cases h), (fun _ => ⟨updU_same _ _ _, (unhide HST).size, by simp, Blk.new w [.int .i64 0, .int .i64 0, .string ⟨#[]⟩, .string ⟨#[]⟩, .slice none 0 0] _⟩), fun j hj => ?_⟩
      by_cases e : j = 8
      · subst e; exact trivial
      · rw [updL_other _ _ _ e] at hj
        rw [updU_other _ _ _ _ (by (try dsimp only); omega)]
        exact LoopA.stay hs2 (fun _ _ => trivial) j _ (LoopA.move (fun b h1 _ => by omega) j _ (unhide HCL j hj))
    -- operation 9
    · rintro L us w ⟨hA, -⟩ hl hdep hbh hup K hK
      obtain ⟨hst, x, hx1, hx2, hcl⟩ := hA hl
      obtain ⟨e7, k7, n7⟩ := hcl 7 (hup 7 (by decide) (by kernel_rfl))
      obtain ⟨a7, b7, c7, x7, y7, l7, z7, d7⟩ := IsE.five k7.now
      have d7 : us 22 = _ := d7
      have k7 : KeepE (fun b => lo2 ≤ b ∧ b ≠ x) 3 w (.agg #[.int .i64 a7, .int .i64 b7, .string c7, .string x7, .slice y7 l7 z7]) e7 := d7 ▸ k7
      obtain ⟨d8, h81, h82, h83⟩ := hx2 (hup 8 (by decide) (by kernel_rfl))
      have m0 := h83.cellAt (i := 0) rfl
      have o0 := h83.2 0
      have m1 := h83.cellAt (i := 1) rfl
      have o1 := h83.2 1
      have m2 := h83.cellAt (i := 2) rfl
      have o2 := h83.2 2
      have m3 := h83.cellAt (i := 3) rfl
      have o3 := h83.2 3
      have m4 := h83.cellAt (i := 4) rfl
      have o4 := h83.2 4
      have HX := hide (And.intro hst (And.intro k7 (And.intro n7 (And.intro h81 (And.intro h82 h83)))))
      clear hst hcl hA hdep hbh hup hl k7 n7 h81 h82 h83 hx1 hx2
      simp only [frmFrom, Nat.reduceAdd, Nat.reduceLeDiff, decide_true, decide_false, Bool.and_true, Bool.and_false, if_true, if_false, Bool.false_eq_true]
      go_simp
      refine hK _ _ ⟨us, by simp [frmFrom, d7, d8], (fun h => by rw [updL_same] at h; cases h), fun _ => ?_⟩
      obtain ⟨hst, k7, n7, h81, h82, h83⟩ := unhide HX
      refine ⟨x, a7, b7, c7, x7, y7, l7, z7, e7, d8, h81, by simpa [World.setCell] using h82, (((((h83.set 0 (.int .i64 a7) (by simp)).set 1 (.int .i64 b7) (by simp)).set 2 (.string c7) (by simp)).set 3 (.string x7) (by simp)).set 4 (.slice y7 l7 z7) (by simp)), k7.stay ((((((StayD.refl (fun b => lo2 ≤ b ∧ b ≠ x) w).set x 0 (.int .i64 a7) (fun _ h => by (try dsimp only at h); omega)).set x 1 (.int .i64 b7) (fun _ h => by (try dsimp only at h); omega)).set x 2 (.string c7) (fun _ h => by (try dsimp only at h); omega)).set x 3 (.string x7) (fun _ h => by (try dsimp only at h); omega)).set x 4 (.slice y7 l7 z7) (fun _ h => by (try dsimp only at h); omega)), n7, ?_⟩
      exact (((((hst.setCell (p := ⟨x, 0, none⟩) h81 (.int .i64 a7)).setCell (p := ⟨x, 1, none⟩) h81 (.int .i64 b7)).setCell (p := ⟨x, 2, none⟩) h81 (.string c7)).setCell (p := ⟨x, 3, none⟩) h81 (.string x7)).setCell (p := ⟨x, 4, none⟩) h81 (.slice y7 l7 z7))
  · rintro L us w2 ⟨-, hB2⟩ hall
    obtain ⟨XB, a7, b7, c7, x7, y7, l7, z7, e7, d8, hX1, hX2, hX3, hX4, hX5, hX6⟩ := hB2 (hall 9 (by decide))
    obtain ⟨W2, hW2⟩ : ∃ W2, w2 = W2 := ⟨_, rfl⟩
    rw [hW2] at hX2 hX3 hX4 hX6 ⊢
    clear hB2 hall hW2
    obtain ⟨M, hM⟩ : ∃ M, M = H + 3 := ⟨_, rfl⟩
    obtain ⟨PB, hP⟩ : ∃ PB, PB = H + 1 := ⟨_, rfl⟩
    obtain ⟨SB, hS⟩ : ∃ SB, SB = H + 2 := ⟨_, rfl⟩
    have hsz := unhide HSZ
    have hss : StayD (fun b => lo ≤ b ∧ b ≠ H + 3) W1 W2 := StayD.below hX6
    have hz2 := hX6.size
    have HLO3 : Hid (lo ≤ W2.heap.size) := hide (by have := unhide HLOH; omega)
    have HML : Hid (M < W2.heap.size) := hide (by omega)
    have HMB : Hid (Blk W2 M [.int .i64 0, .int .i64 0, .string ⟨#[]⟩, .string ⟨#[]⟩, .slice none 0 0]) := hide (by rw [hM]; exact (unhide HMB1).ofb (hX6.block (H + 3) (by omega)))
    have HNBL2 : Hid (NB < W2.heap.size) := hide (by have := unhide HNBL; omega)
    have HNB2 : Hid (Blk W2 NB [.int .i64 3, .int .i64 0, .string nm0, .string ⟨#[]⟩, .slice none 0 0]) := hide ((unhide HNB).ofb (hX6.block NB (unhide HNBL)))
    have HPL : Hid (PB < W2.heap.size) := hide (by omega)
    have HPB : Hid (Blk W2 PB [.int .i64 p0, .int .i64 p1, .string p2, .string p3, .slice p4 p5 p6]) := hide (by rw [hP]; exact (unhide HPB1).ofb (hX6.block (H + 1) (by omega)))
    have HSL : Hid (SB < W2.heap.size) := hide (by omega)
    have HSB : Hid (Blk W2 SB [.int .i64 s0, .int .i64 s1, .string s2, .string s3, .slice s4 s5 s6]) := hide (by rw [hS]; exact (unhide HSB1).ofb (hX6.block (H + 2) (by omega)))
    have HXL : Hid (XB < W2.heap.size) := hide hX2
    have HXB := hide hX3
    have HBE : Hid (KeepE (fun b => lo ≤ b ∧ b ≠ M) 2 W2 (.agg #[.int .i64 p0, .int .i64 p1, .string p2, .string p3, .slice p4 p5 p6]) base) := hide (by rw [hM]; exact (unhide HBE1).stay hss)
    have HSE : Hid (KeepE (fun b => lo ≤ b ∧ b ≠ M) 2 W2 (.agg #[.int .i64 s0, .int .i64 s1, .string s2, .string s3, .slice s4 s5 s6]) step) := hide (by rw [hM]; exact (unhide HSE1).stay hss)
    have HE7 : Hid (KeepE (fun b => lo ≤ b ∧ b ≠ M) 3 W2 (.agg #[.int .i64 a7, .int .i64 b7, .string c7, .string x7, .slice y7 l7 z7]) e7) := hide (hX4.less (fun b _ h => by have h1 := h.1; have := unhide HL2; have := unhide HLOH; exact ⟨by omega, by omega⟩))
    have HN7 := hide hX5
    have HW12 := hide hX6
    simp only [frmFrom, Nat.reduceAdd, Nat.reduceLeDiff, decide_true, decide_false, Bool.and_true, Bool.and_false, if_true, if_false, Bool.false_eq_true]
    rw [d8]
    go_wp2
    rw [← hM, ← hS, ← hP]
    have HMM := hide hM
    have HPP := hide hP
    have HSS := hide hS
    clear hM hP hS hX1 hX2 hX3 hX4 hX5 hX6 hss hz2 hsz d8
    refine wp_region_inv (by kernel_rfl) (fun k => decide (23 ≤ k) && decide (k ≤ 33)) (fun L us w => (L 11 = false → Below W2.heap.size W2 w ∧ Cl (LoopB lo M base.wt step.wt) (fun j => 23 + j) L us w) ∧
          (L 11 = true → ∃ (a10 b10 : Int) (c10 x10 : ByteArray) (y10 : Option Addr) (l10 z10 : Nat) (e10 : TE), Blk w M [.int .i64 a10, .int .i64 b10, .string c10, .string x10, .slice y10 l10 z10] ∧ KeepE (fun b => lo ≤ b ∧ b ≠ M) 5 w (.agg #[.int .i64 a10, .int .i64 b10, .string c10, .string x10, .slice y10 l10 z10]) e10 ∧ e10.wt ≤ 170 + step.wt + base.wt ∧ Below H W2 w)) (by kernel_rfl) ?_ ?_ ?_
    · refine ⟨fun _ => ⟨(Below.refl _ W2).drew, fun j hj => ?_⟩, (fun h => by simp at h)⟩
      have hj2 : 12 ≤ j := of_decide_eq_true hj
      obtain ⟨m, rfl⟩ : ∃ m, j = m + 11 := ⟨j - 11, by omega⟩
      trivial
    · refine ⟨?_, ?_, ?_, ?_, ?_, ?_, ?_, ?_, ?_, ?_, ?_, ?_, trivial⟩
      -- operation 0
      · rintro L us w ⟨hA, -⟩ hl hdep hbh hup K hK
        have hlast : L 11 = false := hbh 11 (by kernel_rfl)
        have hnl : updL L 0 11 = false := (updL_other _ _ _ (by decide)).trans hlast
        obtain ⟨hst, hcl⟩ := hA hlast
        have q0 : w.cell? ⟨NB, 0, none⟩ = some (.int .i64 3) := (World.cell?_of_block (w := W2) (a := ⟨NB, 0, none⟩) (hst.block NB (unhide HNBL2))).trans ((unhide HNB2).1 0)
        have q1 : w.cell? ⟨NB, 1, none⟩ = some (.int .i64 0) := (World.cell?_of_block (w := W2) (a := ⟨NB, 1, none⟩) (hst.block NB (unhide HNBL2))).trans ((unhide HNB2).1 1)
        have q2 : w.cell? ⟨NB, 2, none⟩ = some (.string nm0) := (World.cell?_of_block (w := W2) (a := ⟨NB, 2, none⟩) (hst.block NB (unhide HNBL2))).trans ((unhide HNB2).1 2)
        have q3 : w.cell? ⟨NB, 3, none⟩ = some (.string ⟨#[]⟩) := (World.cell?_of_block (w := W2) (a := ⟨NB, 3, none⟩) (hst.block NB (unhide HNBL2))).trans ((unhide HNB2).1 3)
        have q4 : w.cell? ⟨NB, 4, none⟩ = some (.slice none 0 0) := (World.cell?_of_block (w := W2) (a := ⟨NB, 4, none⟩) (hst.block NB (unhide HNBL2))).trans ((unhide HNB2).1 4)
        have HST := hide hst
        have HCL := hide hcl
        clear hst hcl hA hdep hbh hup hl hlast
        simp only [frmFrom, Nat.reduceAdd, Nat.reduceLeDiff, decide_true, decide_false, Bool.and_true, if_true, if_false, Bool.false_eq_true]
        go_simp
        refine hK _ _ ⟨updU us 23 (.agg #[.int .i64 3, .int .i64 0, .string nm0, .string ⟨#[]⟩, .slice none 0 0]), by simp [frmFrom, updU], fun _ => ?_, (fun h => by rw [hnl] at h; cases h)⟩
        have hb2 : Below w.heap.size w (w) := Below.refl _ _
        have hs2 : StayD (fun _ => True) w (w) := StayD.below hb2
        exact ⟨(unhide HST).trans (hb2.mono (unhide HST).size), (unhide HCL).put (fun j v h => LoopB.stay hs2 (fun _ _ => trivial) j v h) (⟨.node 3 0 nm0 ⟨#[]⟩ [], keepE_leaf (by have := unhide HNM; omega) (Nat.zero_le _), by have := unhide HNM; simp [TE.wt, wtL, emp_size]; omega⟩) (fun j hj => by omega)⟩
      -- operation 1
      · rintro L us w ⟨hA, -⟩ hl hdep hbh hup K hK
        have hlast : L 11 = false := hbh 11 (by kernel_rfl)
        have hnl : updL L 1 11 = false := (updL_other _ _ _ (by decide)).trans hlast
        obtain ⟨hst, hcl⟩ := hA hlast
        have HST := hide hst
        have HCL := hide hcl
        clear hst hcl hA hdep hbh hup hl hlast
        simp only [frmFrom, Nat.reduceAdd, Nat.reduceLeDiff, decide_true, decide_false, Bool.and_true, if_true, if_false, Bool.false_eq_true]
        go_simp
        refine (l22NumE_any 1 w).mono ?_
        rintro r w5 ⟨rfl, hb5⟩
        go_simp
        refine hK _ _ ⟨updU us 24 (.agg #[.int .i64 1, .int .i64 1, .string ⟨#[]⟩, .string ⟨#[]⟩, .slice none 0 0]), by simp [frmFrom, updU], fun _ => ?_, (fun h => by rw [hnl] at h; cases h)⟩
        have hb2 : Below w.heap.size w (w5) := hb5
        have hs2 : StayD (fun _ => True) w (w5) := StayD.below hb2
        exact ⟨(unhide HST).trans (hb2.mono (unhide HST).size), (unhide HCL).put (fun j v h => LoopB.stay hs2 (fun _ _ => trivial) j v h) (⟨.node 1 1 ⟨#[]⟩ ⟨#[]⟩ [], keepE_leaf (Nat.zero_le _) (Nat.zero_le _), by simp [TE.wt, wtL, emp_size]⟩) (fun j hj => by omega)⟩
      -- operation 2
      · rintro L us w ⟨hA, -⟩ hl hdep hbh hup K hK
        have hlast : L 11 = false := hbh 11 (by kernel_rfl)
        have hnl : updL L 2 11 = false := (updL_other _ _ _ (by decide)).trans hlast
        obtain ⟨hst, hcl⟩ := hA hlast
        obtain ⟨e0, k0, n0⟩ := hcl 0 (hup 0 (by decide) (by kernel_rfl))
        obtain ⟨a0, b0, c0, x0, y0, l0, z0, d0⟩ := IsE.five k0.now
        have d0 : us 23 = _ := d0
        have k0 : KeepE (fun b => lo ≤ b ∧ b ≠ M) _ w (.agg #[.int .i64 a0, .int .i64 b0, .string c0, .string x0, .slice y0 l0 z0]) e0 := d0 ▸ k0
        obtain ⟨e1, k1, n1⟩ := hcl 1 (hup 1 (by decide) (by kernel_rfl))
        obtain ⟨a1, b1, c1, x1, y1, l1, z1, d1⟩ := IsE.five k1.now
        have d1 : us 24 = _ := d1
        have k1 : KeepE (fun b => lo ≤ b ∧ b ≠ M) _ w (.agg #[.int .i64 a1, .int .i64 b1, .string c1, .string x1, .slice y1 l1 z1]) e1 := d1 ▸ k1
        have HST := hide hst
        have HCL := hide hcl
        clear hst hcl hA hdep hbh hup hl hlast
        simp only [frmFrom, Nat.reduceAdd, Nat.reduceLeDiff, decide_true, decide_false, Bool.and_true, if_true, if_false, Bool.false_eq_true]
        go_simp
        refine hK _ _ ⟨updU us 25 (.slice (some ⟨w.heap.size, 0, none⟩) 2 2), by simp [frmFrom, updU, d0, d1], fun _ => ?_, (fun h => by rw [hnl] at h; cases h)⟩
        have hb2 : Below w.heap.size w (w.alloc (.cells #[.int .i64 a0, .int .i64 b0, .string c0, .string x0, .slice y0 l0 z0, .int .i64 a1, .int .i64 b1, .string c1, .string x1, .slice y1 l1 z1] 31)) := below_one w _
        have hs2 : StayD (fun _ => True) w (w.alloc (.cells #[.int .i64 a0, .int .i64 b0, .string c0, .string x0, .slice y0 l0 z0, .int .i64 a1, .int .i64 b1, .string c1, .string x1, .slice y1 l1 z1] 31)) := StayD.below hb2
        have hkp := lit_alloc (h := 1) (S := fun b => lo ≤ b ∧ b ≠ M) (w := w) [(e0, [.int .i64 a0, .int .i64 b0, .string c0, .string x0, .slice y0 l0 z0]), (e1, [.int .i64 a1, .int .i64 b1, .string c1, .string x1, .slice y1 l1 z1])] 31 ⟨(by have := (unhide HST).size; have := unhide HLO3; omega), (by have := (unhide HST).size; have := unhide HML; omega)⟩ (by
          intro p hp
          simp only [List.mem_cons, List.not_mem_nil, or_false] at hp
          rcases hp with rfl | rfl <;> refine ⟨rfl, fun u hu => ?_⟩ <;> simp only [List.mem_cons, List.not_mem_nil, or_false] at hu <;> rcases hu with rfl | rfl | rfl | rfl | rfl <;> rfl) (by
          intro p hp
          simp only [List.mem_cons, List.not_mem_nil, or_false] at hp
          rcases hp with rfl | rfl
          · exact k0.imp (fun W hW => EltE.of (hW.ups (by omega)))
          · exact k1.imp (fun W hW => EltE.of (hW.ups (by omega))))
        exact ⟨(unhide HST).trans (hb2.mono (unhide HST).size), (unhide HCL).put (fun j v h => LoopB.stay hs2 (fun _ _ => trivial) j v h) (⟨w.heap.size, [e0, e1], rfl, rfl, hkp, by simp only [wtL]; omega⟩) (fun j hj => by omega)⟩
      -- operation 3
      · rintro L us w ⟨hA, -⟩ hl hdep hbh hup K hK
        have hlast : L 11 = false := hbh 11 (by kernel_rfl)
        have hnl : updL L 3 11 = false := (updL_other _ _ _ (by decide)).trans hlast
        obtain ⟨hst, hcl⟩ := hA hlast
        obtain ⟨g2, ks2, d2, q2, p2, n2⟩ := hcl 2 (hup 2 (by decide) (by kernel_rfl))
        have d2 : us 25 = _ := d2
        have HST := hide hst
        have HCL := hide hcl
        clear hst hcl hA hdep hbh hup hl hlast
        simp only [frmFrom, Nat.reduceAdd, Nat.reduceLeDiff, decide_true, decide_false, Bool.and_true, if_true, if_false, Bool.false_eq_true]
        go_simp
        refine hK _ _ ⟨updU us 26 (.agg #[.int .i64 4, .int .i64 0, .string ⟨#[60]⟩, .string ⟨#[]⟩, .slice (some ⟨g2, 0, none⟩) 2 2]), by simp [frmFrom, updU, d2], fun _ => ?_, (fun h => by rw [hnl] at h; cases h)⟩
        have hb2 : Below w.heap.size w (w) := Below.refl _ _
        have hs2 : StayD (fun _ => True) w (w) := StayD.below hb2
        exact ⟨(unhide HST).trans (hb2.mono (unhide HST).size), (unhide HCL).put (fun j v h => LoopB.stay hs2 (fun _ _ => trivial) j v h) (⟨.node 4 0 ⟨#[60]⟩ ⟨#[]⟩ ks2, keepE_node p2 q2 (by omega) (by decide) (Nat.zero_le _), by simp only [TE.wt, emp_size]; have : (⟨#[60]⟩ : ByteArray).size = 1 := rfl; omega⟩) (fun j hj => by omega)⟩
      -- operation 4
      · rintro L us w ⟨hA, -⟩ hl hdep hbh hup K hK
        have hlast : L 11 = false := hbh 11 (by kernel_rfl)
        have hnl : updL L 4 11 = false := (updL_other _ _ _ (by decide)).trans hlast
        obtain ⟨hst, hcl⟩ := hA hlast
        have q0 : w.cell? ⟨PB, 0, none⟩ = some (.int .i64 p0) := (World.cell?_of_block (w := W2) (a := ⟨PB, 0, none⟩) (hst.block PB (unhide HPL))).trans ((unhide HPB).1 0)
        have q1 : w.cell? ⟨PB, 1, none⟩ = some (.int .i64 p1) := (World.cell?_of_block (w := W2) (a := ⟨PB, 1, none⟩) (hst.block PB (unhide HPL))).trans ((unhide HPB).1 1)
        have q2 : w.cell? ⟨PB, 2, none⟩ = some (.string p2) := (World.cell?_of_block (w := W2) (a := ⟨PB, 2, none⟩) (hst.block PB (unhide HPL))).trans ((unhide HPB).1 2)
        have q3 : w.cell? ⟨PB, 3, none⟩ = some (.string p3) := (World.cell?_of_block (w := W2) (a := ⟨PB, 3, none⟩) (hst.block PB (unhide HPL))).trans ((unhide HPB).1 3)
        have q4 : w.cell? ⟨PB, 4, none⟩ = some (.slice p4 p5 p6) := (World.cell?_of_block (w := W2) (a := ⟨PB, 4, none⟩) (hst.block PB (unhide HPL))).trans ((unhide HPB).1 4)
        have HST := hide hst
        have HCL := hide hcl
        clear hst hcl hA hdep hbh hup hl hlast
        simp only [frmFrom, Nat.reduceAdd, Nat.reduceLeDiff, decide_true, decide_false, Bool.and_true, if_true, if_false, Bool.false_eq_true]
        go_simp
        refine hK _ _ ⟨updU us 27 (.agg #[.int .i64 p0, .int .i64 p1, .string p2, .string p3, .slice p4 p5 p6]), by simp [frmFrom, updU], fun _ => ?_, (fun h => by rw [hnl] at h; cases h)⟩
        have hb2 : Below w.heap.size w (w) := Below.refl _ _
        have hs2 : StayD (fun _ => True) w (w) := StayD.below hb2
        exact ⟨(unhide HST).trans (hb2.mono (unhide HST).size), (unhide HCL).put (fun j v h => LoopB.stay hs2 (fun _ _ => trivial) j v h) (⟨base, (unhide HBE).stay (StayD.below (unhide HST)), Nat.le_refl _⟩) (fun j hj => by omega)⟩
      -- operation 5
      · rintro L us w ⟨hA, -⟩ hl hdep hbh hup K hK
        have hlast : L 11 = false := hbh 11 (by kernel_rfl)
        have hnl : updL L 5 11 = false := (updL_other _ _ _ (by decide)).trans hlast
        obtain ⟨hst, hcl⟩ := hA hlast
        have q0 : w.cell? ⟨SB, 0, none⟩ = some (.int .i64 s0) := (World.cell?_of_block (w := W2) (a := ⟨SB, 0, none⟩) (hst.block SB (unhide HSL))).trans ((unhide HSB).1 0)
        have q1 : w.cell? ⟨SB, 1, none⟩ = some (.int .i64 s1) := (World.cell?_of_block (w := W2) (a := ⟨SB, 1, none⟩) (hst.block SB (unhide HSL))).trans ((unhide HSB).1 1)
        have q2 : w.cell? ⟨SB, 2, none⟩ = some (.string s2) := (World.cell?_of_block (w := W2) (a := ⟨SB, 2, none⟩) (hst.block SB (unhide HSL))).trans ((unhide HSB).1 2)
        have q3 : w.cell? ⟨SB, 3, none⟩ = some (.string s3) := (World.cell?_of_block (w := W2) (a := ⟨SB, 3, none⟩) (hst.block SB (unhide HSL))).trans ((unhide HSB).1 3)
        have q4 : w.cell? ⟨SB, 4, none⟩ = some (.slice s4 s5 s6) := (World.cell?_of_block (w := W2) (a := ⟨SB, 4, none⟩) (hst.block SB (unhide HSL))).trans ((unhide HSB).1 4)
        have HST := hide hst
        have HCL := hide hcl
        clear hst hcl hA hdep hbh hup hl hlast
        simp only [frmFrom, Nat.reduceAdd, Nat.reduceLeDiff, decide_true, decide_false, Bool.and_true, if_true, if_false, Bool.false_eq_true]
        go_simp
        refine hK _ _ ⟨updU us 28 (.agg #[.int .i64 s0, .int .i64 s1, .string s2, .string s3, .slice s4 s5 s6]), by simp [frmFrom, updU], fun _ => ?_, (fun h => by rw [hnl] at h; cases h)⟩
        have hb2 : Below w.heap.size w (w) := Below.refl _ _
        have hs2 : StayD (fun _ => True) w (w) := StayD.below hb2
        exact ⟨(unhide HST).trans (hb2.mono (unhide HST).size), (unhide HCL).put (fun j v h => LoopB.stay hs2 (fun _ _ => trivial) j v h) (⟨step, (unhide HSE).stay (StayD.below (unhide HST)), Nat.le_refl _⟩) (fun j hj => by omega)⟩
      -- operation 6
      · rintro L us w ⟨hA, -⟩ hl hdep hbh hup K hK
        have hlast : L 11 = false := hbh 11 (by kernel_rfl)
        have hnl : updL L 6 11 = false := (updL_other _ _ _ (by decide)).trans hlast
        obtain ⟨hst, hcl⟩ := hA hlast
        have q0 : w.cell? ⟨XB, 0, none⟩ = some (.int .i64 a7) := (World.cell?_of_block (w := W2) (a := ⟨XB, 0, none⟩) (hst.block XB (unhide HXL))).trans ((unhide HXB).1 0)
        have q1 : w.cell? ⟨XB, 1, none⟩ = some (.int .i64 b7) := (World.cell?_of_block (w := W2) (a := ⟨XB, 1, none⟩) (hst.block XB (unhide HXL))).trans ((unhide HXB).1 1)
        have q2 : w.cell? ⟨XB, 2, none⟩ = some (.string c7) := (World.cell?_of_block (w := W2) (a := ⟨XB, 2, none⟩) (hst.block XB (unhide HXL))).trans ((unhide HXB).1 2)
        have q3 : w.cell? ⟨XB, 3, none⟩ = some (.string x7) := (World.cell?_of_block (w := W2) (a := ⟨XB, 3, none⟩) (hst.block XB (unhide HXL))).trans ((unhide HXB).1 3)
        have q4 : w.cell? ⟨XB, 4, none⟩ = some (.slice y7 l7 z7) := (World.cell?_of_block (w := W2) (a := ⟨XB, 4, none⟩) (hst.block XB (unhide HXL))).trans ((unhide HXB).1 4)
        have HST := hide hst
        have HCL := hide hcl
        clear hst hcl hA hdep hbh hup hl hlast
        simp only [frmFrom, Nat.reduceAdd, Nat.reduceLeDiff, decide_true, decide_false, Bool.and_true, if_true, if_false, Bool.false_eq_true]
        go_simp
        refine hK _ _ ⟨updU us 29 (.agg #[.int .i64 a7, .int .i64 b7, .string c7, .string x7, .slice y7 l7 z7]), by simp [frmFrom, updU], fun _ => ?_, (fun h => by rw [hnl] at h; cases h)⟩
        have hb2 : Below w.heap.size w (w) := Below.refl _ _
        have hs2 : StayD (fun _ => True) w (w) := StayD.below hb2
        exact ⟨(unhide HST).trans (hb2.mono (unhide HST).size), (unhide HCL).put (fun j v h => LoopB.stay hs2 (fun _ _ => trivial) j v h) (⟨e7, (unhide HE7).stay (StayD.below (unhide HST)), unhide HN7⟩) (fun j hj => by omega)⟩
      -- operation 7
      · rintro L us w ⟨hA, -⟩ hl hdep hbh hup K hK
        have hlast : L 11 = false := hbh 11 (by kernel_rfl)
        have hnl : updL L 7 11 = false := (updL_other _ _ _ (by decide)).trans hlast
        obtain ⟨hst, hcl⟩ := hA hlast
        obtain ⟨e5, k5, n5⟩ := hcl 5 (hup 5 (by decide) (by kernel_rfl))
        obtain ⟨a5, b5, c5, x5, y5, l5, z5, d5⟩ := IsE.five k5.now
        have d5 : us 28 = _ := d5
        have k5 : KeepE (fun b => lo ≤ b ∧ b ≠ M) _ w (.agg #[.int .i64 a5, .int .i64 b5, .string c5, .string x5, .slice y5 l5 z5]) e5 := d5 ▸ k5
        obtain ⟨e6, k6, n6⟩ := hcl 6 (hup 6 (by decide) (by kernel_rfl))
        obtain ⟨a6, b6, c6, x6, y6, l6, z6, d6⟩ := IsE.five k6.now
        have d6 : us 29 = _ := d6
        have k6 : KeepE (fun b => lo ≤ b ∧ b ≠ M) _ w (.agg #[.int .i64 a6, .int .i64 b6, .string c6, .string x6, .slice y6 l6 z6]) e6 := d6 ▸ k6
        have HST := hide hst
        have HCL := hide hcl
        clear hst hcl hA hdep hbh hup hl hlast
        simp only [frmFrom, Nat.reduceAdd, Nat.reduceLeDiff, decide_true, decide_false, Bool.and_true, if_true, if_false, Bool.false_eq_true]
        go_simp
        refine hK _ _ ⟨updU us 30 (.slice (some ⟨w.heap.size, 0, none⟩) 2 2), by simp [frmFrom, updU, d5, d6], fun _ => ?_, (fun h => by rw [hnl] at h; cases h)⟩
        have hb2 : Below w.heap.size w (w.alloc (.cells #[.int .i64 a5, .int .i64 b5, .string c5, .string x5, .slice y5 l5 z5, .int .i64 a6, .int .i64 b6, .string c6, .string x6, .slice y6 l6 z6] 31)) := below_one w _
        have hs2 : StayD (fun _ => True) w (w.alloc (.cells #[.int .i64 a5, .int .i64 b5, .string c5, .string x5, .slice y5 l5 z5, .int .i64 a6, .int .i64 b6, .string c6, .string x6, .slice y6 l6 z6] 31)) := StayD.below hb2
        have hkp := lit_alloc (h := 3) (S := fun b => lo ≤ b ∧ b ≠ M) (w := w) [(e5, [.int .i64 a5, .int .i64 b5, .string c5, .string x5, .slice y5 l5 z5]), (e6, [.int .i64 a6, .int .i64 b6, .string c6, .string x6, .slice y6 l6 z6])] 31 ⟨(by have := (unhide HST).size; have := unhide HLO3; omega), (by have := (unhide HST).size; have := unhide HML; omega)⟩ (by
          intro p hp
          simp only [List.mem_cons, List.not_mem_nil, or_false] at hp
          rcases hp with rfl | rfl <;> refine ⟨rfl, fun u hu => ?_⟩ <;> simp only [List.mem_cons, List.not_mem_nil, or_false] at hu <;> rcases hu with rfl | rfl | rfl | rfl | rfl <;> rfl) (by
          intro p hp
          simp only [List.mem_cons, List.not_mem_nil, or_false] at hp
          rcases hp with rfl | rfl
          · exact k5.imp (fun W hW => EltE.of (hW.ups (by omega)))
          · exact k6.imp (fun W hW => EltE.of (hW.ups (by omega))))
        exact ⟨(unhide HST).trans (hb2.mono (unhide HST).size), (unhide HCL).put (fun j v h => LoopB.stay hs2 (fun _ _ => trivial) j v h) (⟨w.heap.size, [e5, e6], rfl, rfl, hkp, by simp only [wtL]; omega⟩) (fun j hj => by omega)⟩
      -- operation 8
      · rintro L us w ⟨hA, -⟩ hl hdep hbh hup K hK
        have hlast : L 11 = false := hbh 11 (by kernel_rfl)
        have hnl : updL L 8 11 = false := (updL_other _ _ _ (by decide)).trans hlast
        obtain ⟨hst, hcl⟩ := hA hlast
        obtain ⟨g7, ks7, d7, q7, p7, n7⟩ := hcl 7 (hup 7 (by decide) (by kernel_rfl))
        have d7 : us 30 = _ := d7
        have HST := hide hst
        have HCL := hide hcl
        clear hst hcl hA hdep hbh hup hl hlast
        simp only [frmFrom, Nat.reduceAdd, Nat.reduceLeDiff, decide_true, decide_false, Bool.and_true, if_true, if_false, Bool.false_eq_true]
        go_simp
        refine hK _ _ ⟨updU us 31 (.agg #[.int .i64 4, .int .i64 0, .string ⟨#[43]⟩, .string ⟨#[]⟩, .slice (some ⟨g7, 0, none⟩) 2 2]), by simp [frmFrom, updU, d7], fun _ => ?_, (fun h => by rw [hnl] at h; cases h)⟩
        have hb2 : Below w.heap.size w (w) := Below.refl _ _
        have hs2 : StayD (fun _ => True) w (w) := StayD.below hb2
        exact ⟨(unhide HST).trans (hb2.mono (unhide HST).size), (unhide HCL).put (fun j v h => LoopB.stay hs2 (fun _ _ => trivial) j v h) (⟨.node 4 0 ⟨#[43]⟩ ⟨#[]⟩ ks7, keepE_node p7 q7 (by omega) (by decide) (Nat.zero_le _), by simp only [TE.wt, emp_size]; have : (⟨#[43]⟩ : ByteArray).size = 1 := rfl; omega⟩) (fun j hj => by omega)⟩
      -- operation 9
      · rintro L us w ⟨hA, -⟩ hl hdep hbh hup K hK
        have hlast : L 11 = false := hbh 11 (by kernel_rfl)
        have hnl : updL L 9 11 = false := (updL_other _ _ _ (by decide)).trans hlast
        obtain ⟨hst, hcl⟩ := hA hlast
        obtain ⟨e3, k3, n3⟩ := hcl 3 (hup 3 (by decide) (by kernel_rfl))
        obtain ⟨a3, b3, c3, x3, y3, l3, z3, d3⟩ := IsE.five k3.now
        have d3 : us 26 = _ := d3
        have k3 : KeepE (fun b => lo ≤ b ∧ b ≠ M) _ w (.agg #[.int .i64 a3, .int .i64 b3, .string c3, .string x3, .slice y3 l3 z3]) e3 := d3 ▸ k3
        obtain ⟨e4, k4, n4⟩ := hcl 4 (hup 4 (by decide) (by kernel_rfl))
        obtain ⟨a4, b4, c4, x4, y4, l4, z4, d4⟩ := IsE.five k4.now
        have d4 : us 27 = _ := d4
        have k4 : KeepE (fun b => lo ≤ b ∧ b ≠ M) _ w (.agg #[.int .i64 a4, .int .i64 b4, .string c4, .string x4, .slice y4 l4 z4]) e4 := d4 ▸ k4
        obtain ⟨e8, k8, n8⟩ := hcl 8 (hup 8 (by decide) (by kernel_rfl))
        obtain ⟨a8, b8, c8, x8, y8, l8, z8, d8⟩ := IsE.five k8.now
        have d8 : us 31 = _ := d8
        have k8 : KeepE (fun b => lo ≤ b ∧ b ≠ M) _ w (.agg #[.int .i64 a8, .int .i64 b8, .string c8, .string x8, .slice y8 l8 z8]) e8 := d8 ▸ k8
        have HST := hide hst
        have HCL := hide hcl
        clear hst hcl hA hdep hbh hup hl hlast
        simp only [frmFrom, Nat.reduceAdd, Nat.reduceLeDiff, decide_true, decide_false, Bool.and_true, if_true, if_false, Bool.false_eq_true]
        go_simp
        refine hK _ _ ⟨updU us 32 (.slice (some ⟨w.heap.size, 0, none⟩) 3 3), by simp [frmFrom, updU, d3, d4, d8], fun _ => ?_, (fun h => by rw [hnl] at h; cases h)⟩
        have hb2 : Below w.heap.size w (w.alloc (.cells #[.int .i64 a3, .int .i64 b3, .string c3, .string x3, .slice y3 l3 z3, .int .i64 a4, .int .i64 b4, .string c4, .string x4, .slice y4 l4 z4, .int .i64 a8, .int .i64 b8, .string c8, .string x8, .slice y8 l8 z8] 31)) := below_one w _
        have hs2 : StayD (fun _ => True) w (w.alloc (.cells #[.int .i64 a3, .int .i64 b3, .string c3, .string x3, .slice y3 l3 z3, .int .i64 a4, .int .i64 b4, .string c4, .string x4, .slice y4 l4 z4, .int .i64 a8, .int .i64 b8, .string c8, .string x8, .slice y8 l8 z8] 31)) := StayD.below hb2
        have hkp := lit_alloc (h := 4) (S := fun b => lo ≤ b ∧ b ≠ M) (w := w) [(e3, [.int .i64 a3, .int .i64 b3, .string c3, .string x3, .slice y3 l3 z3]), (e4, [.int .i64 a4, .int .i64 b4, .string c4, .string x4, .slice y4 l4 z4]), (e8, [.int .i64 a8, .int .i64 b8, .string c8, .string x8, .slice y8 l8 z8])] 31 ⟨(by have := (unhide HST).size; have := unhide HLO3; omega), (by have := (unhide HST).size; have := unhide HML; omega)⟩ (by
          intro p hp
          simp only [List.mem_cons, List.not_mem_nil, or_false] at hp
          rcases hp with rfl | rfl | rfl <;> refine ⟨rfl, fun u hu => ?_⟩ <;> simp only [List.mem_cons, List.not_mem_nil, or_false] at hu <;> rcases hu with rfl | rfl | rfl | rfl | rfl <;> rfl) (by
          intro p hp
          simp only [List.mem_cons, List.not_mem_nil, or_false] at hp
          rcases hp with rfl | rfl | rfl
          · exact k3.imp (fun W hW => EltE.of (hW.ups (by omega)))
          · exact k4.imp (fun W hW => EltE.of (hW.ups (by omega)))
          · exact k8.imp (fun W hW => EltE.of (hW.ups (by omega))))
        exact ⟨(unhide HST).trans (hb2.mono (unhide HST).size), (unhide HCL).put (fun j v h => LoopB.stay hs2 (fun _ _ => trivial) j v h) (⟨w.heap.size, [e3, e4, e8], rfl, rfl, hkp, by simp only [wtL]; omega⟩) (fun j hj => by omega)⟩
      -- operation 10
      · rintro L us w ⟨hA, -⟩ hl hdep hbh hup K hK
        have hlast : L 11 = false := hbh 11 (by kernel_rfl)
        have hnl : updL L 10 11 = false := (updL_other _ _ _ (by decide)).trans hlast
        obtain ⟨hst, hcl⟩ := hA hlast
        obtain ⟨g9, ks9, d9, q9, p9, n9⟩ := hcl 9 (hup 9 (by decide) (by kernel_rfl))
        have d9 : us 32 = _ := d9
        have HST := hide hst
        have HCL := hide hcl
        clear hst hcl hA hdep hbh hup hl hlast
        simp only [frmFrom, Nat.reduceAdd, Nat.reduceLeDiff, decide_true, decide_false, Bool.and_true, if_true, if_false, Bool.false_eq_true]
        go_simp
        refine hK _ _ ⟨updU us 33 (.agg #[.int .i64 5, .int .i64 0, .string ⟨#[]⟩, .string ⟨#[]⟩, .slice (some ⟨g9, 0, none⟩) 3 3]), by simp [frmFrom, updU, d9], fun _ => ?_, (fun h => by rw [hnl] at h; cases h)⟩
        have hb2 : Below w.heap.size w (w) := Below.refl _ _
        have hs2 : StayD (fun _ => True) w (w) := StayD.below hb2
        exact ⟨(unhide HST).trans (hb2.mono (unhide HST).size), (unhide HCL).put (fun j v h => LoopB.stay hs2 (fun _ _ => trivial) j v h) (⟨.node 5 0 ⟨#[]⟩ ⟨#[]⟩ ks9, keepE_node p9 q9 (by omega) (Nat.zero_le _) (Nat.zero_le _), by simp only [TE.wt, emp_size]; omega⟩) (fun j hj => by omega)⟩
      -- operation 11
      · rintro L us w ⟨hA, -⟩ hl hdep hbh hup K hK
        obtain ⟨hst, hcl⟩ := hA hl
        obtain ⟨e10, k10, n10⟩ := hcl 10 (hup 10 (by decide) (by kernel_rfl))
        obtain ⟨a10, b10, c10, x10, y10, l10, z10, d10⟩ := IsE.five k10.now
        have d10 : us 33 = _ := d10
        have k10 : KeepE (fun b => lo ≤ b ∧ b ≠ M) 5 w (.agg #[.int .i64 a10, .int .i64 b10, .string c10, .string x10, .slice y10 l10 z10]) e10 := d10 ▸ k10
        have hmb : Blk w M [.int .i64 0, .int .i64 0, .string ⟨#[]⟩, .string ⟨#[]⟩, .slice none 0 0] := (unhide HMB).ofb (hst.block M (unhide HML))
        have m0 := hmb.cellAt (i := 0) rfl
        have o0 := hmb.2 0
        have m1 := hmb.cellAt (i := 1) rfl
        have o1 := hmb.2 1
        have m2 := hmb.cellAt (i := 2) rfl
        have o2 := hmb.2 2
        have m3 := hmb.cellAt (i := 3) rfl
        have o3 := hmb.2 3
        have m4 := hmb.cellAt (i := 4) rfl
        have o4 := hmb.2 4
        have HX := hide (And.intro hst (And.intro k10 (And.intro n10 hmb)))
        clear hst hcl hA hdep hbh hup hl k10 n10 hmb
        simp only [frmFrom, Nat.reduceAdd, Nat.reduceLeDiff, decide_true, decide_false, Bool.and_true, if_true, if_false, Bool.false_eq_true]
        go_simp
        refine hK _ _ ⟨us, by simp [frmFrom, d10], (fun h => by rw [updL_same] at h; cases h), fun _ => ?_⟩
        obtain ⟨hst, k10, n10, hmb⟩ := unhide HX
        exact ⟨a10, b10, c10, x10, y10, l10, z10, e10, (((((hmb.set 0 (.int .i64 a10) (by simp)).set 1 (.int .i64 b10) (by simp)).set 2 (.string c10) (by simp)).set 3 (.string x10) (by simp)).set 4 (.slice y10 l10 z10) (by simp)), k10.stay ((((((StayD.refl (fun b => lo ≤ b ∧ b ≠ M) w).set M 0 (.int .i64 a10) (fun _ h => by (try dsimp only at h); omega)).set M 1 (.int .i64 b10) (fun _ h => by (try dsimp only at h); omega)).set M 2 (.string c10) (fun _ h => by (try dsimp only at h); omega)).set M 3 (.string x10) (fun _ h => by (try dsimp only at h); omega)).set M 4 (.slice y10 l10 z10) (fun _ h => by (try dsimp only at h); omega)), n10, ((((((hst.mono (by have := unhide HML; have := unhide HMM; omega)).setCell (p := ⟨M, 0, none⟩) (by have := unhide HMM; (try dsimp only); omega) (.int .i64 a10)).setCell (p := ⟨M, 1, none⟩) (by have := unhide HMM; (try dsimp only); omega) (.int .i64 b10)).setCell (p := ⟨M, 2, none⟩) (by have := unhide HMM; (try dsimp only); omega) (.string c10)).setCell (p := ⟨M, 3, none⟩) (by have := unhide HMM; (try dsimp only); omega) (.string x10)).setCell (p := ⟨M, 4, none⟩) (by have := unhide HMM; (try dsimp only); omega) (.slice y10 l10 z10))⟩
    · rintro L us w3 ⟨-, hB3⟩ hall
      obtain ⟨a10, b10, c10, x10, y10, l10, z10, e10, hm3, hk3, hn3, hs3⟩ := hB3 (hall 11 (by decide))
      simp only [frmFrom, Nat.reduceAdd, Nat.reduceLeDiff, decide_true, decide_false, Bool.and_true, if_true, if_false, Bool.false_eq_true]
      have g0 := hm3.cellAt (i := 0) rfl
      have g1 := hm3.cellAt (i := 1) rfl
      have g2 := hm3.cellAt (i := 2) rfl
      have g3 := hm3.cellAt (i := 3) rfl
      have g4 := hm3.cellAt (i := 4) rfl
      go_wp2
      refine bodyPost_ret (v := .agg #[.int .i64 a10, .int .i64 b10, .string c10, .string x10, .slice y10 l10 z10]) (by simp [results, Tryz.results54, go_sem, g0, g1, g2, g3, g4]) rfl ?_
      refine ⟨_, e10, rfl, hk3.less (fun b _ h => by rw [unhide HHH, ← unhide HMM]; exact h), hn3, ?_⟩
      rw [unhide HHH]
      exact ((unhide HBW).mono (by rw [unhide HHH]; omega)).trans (((unhide HW12).mono (by rw [unhide HSZ]; omega)).trans hs3)
end Go.Proofs.YtffabnmgcicpiaaGreat
