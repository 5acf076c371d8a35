/- The walk of the law on primitives: it returns true and turns nothing that was there. No conditions. -/
import Derived.Test.YtjnahhalgckggaaBd6
import Derived.OpenShut
namespace Go.Proofs.Ytjnahhalgckggaa
open Go.RowKit Go.PlainAid

/-- What the walk is told of a slice of integers that came in. -/
def IsRow (k : IntKind) (w : World) (a : Option Addr) (len cap : Nat) (zs : List Int) : Prop :=
  (a = none ∧ len = 0 ∧ cap = 0 ∧ zs = []) ∨
  ∃ x, a = some x ∧ len ≤ cap ∧ cap ≤ maxLen ∧ zs.length = cap ∧ (∀ i, i < zs.length → w.cell? (x.add i) = some (.int k (zs.getD i 0))) ∧ ∀ n ∈ zs, (Lit.int k n).wf = true
theorem wf_u8 {n : Int} (h : (Lit.int .u8 n).wf = true) : 0 ≤ n ∧ n ≤ 255 := bounds_u8 h
theorem IsRow.src {w : World} {a : Option Addr} {len cap : Nat} {zs : List Int} (h : IsRow .u8 w a len cap zs) : len ≤ cap ∧ cap ≤ maxLen ∧ Src w w.heap.size a len := by
  rcases h with ⟨rfl, rfl, rfl, rfl⟩ | ⟨x, rfl, h1, h2, h3, h4, h5⟩
  · exact ⟨Nat.le_refl _, Nat.zero_le _, .inl rfl⟩
  · refine ⟨h1, h2, ?_⟩
    by_cases hl : len = 0
    · exact .inl hl
    · right
      obtain ⟨b, off, spot⟩ := x
      have hc := h4 0 (by omega)
      have hspot : spot = none := by simpa [Addr.add] using World.cell?_spot hc
      subst hspot
      refine ⟨b, off, fun j => zs.getD j 0, rfl, ?_, fun j => ?_, fun j hj => ?_⟩
      · have := block_lt_of_cell hc
        simpa [Addr.add] using this
      · by_cases hj : j < zs.length
        · have e : zs.getD j 0 = zs[j] := by simp [List.getD, hj]
          show 0 ≤ zs.getD j 0 ∧ zs.getD j 0 ≤ 255
          rw [e]
          exact wf_u8 (h5 _ (List.getElem_mem hj))
        · have e : zs.getD j 0 = 0 := by simp [List.getD, List.getElem?_eq_none (Nat.le_of_not_lt hj)]
          show 0 ≤ zs.getD j 0 ∧ zs.getD j 0 ≤ 255
          rw [e]
          omega
      · have := h4 j (by omega)
        by_cases e : j = 0
        · subst e; simpa [Addr.add] using this
        · simpa [Addr.add, e] using this
/-- A value and its row in memory. -/
def RowAt (W : World) (x : MV) (v : Value) : Prop := ∃ (a : Option Addr) (c : Nat), v = .slice a x.row.length c ∧ x.row.length ≤ 1048576 ∧ IsInts W 0 W.heap.size a x.row
theorem RowAt.kept {W W' : World} {x : MV} {v : Value} (h : RowAt W x v) (hb : Below W.heap.size W W') : RowAt W' x v := by
  obtain ⟨a, c, h1, h2, h3⟩ := h
  exact ⟨a, c, h1, h2, h3.kept hb hb.size⟩
theorem mvs_lit (W : World) (ps : List (MV × Value)) (h : ∀ p ∈ ps, RowAt W p.1 p.2) (C : Array Value) (hC : C = (flatV ps).toArray) : Mvs (W.alloc (.cells C 28)) 0 (some ⟨W.heap.size, 0, none⟩) (ps.map Prod.fst) := by
  subst hC
  refine ⟨.inr ⟨W.heap.size, 0, rfl, Nat.zero_le _, by simp, fun j hj => ?_⟩, fun x hx => ?_⟩
  · have hj' : j < ps.length := by simpa using hj
    obtain ⟨k0, k1, k2⟩ := flatV_at ps j hj'
    obtain ⟨a, c, e, hl, hi⟩ := (h _ (List.getElem_mem hj')).kept (below_new W (.cells (flatV ps).toArray 28))
    have hall : ∀ k u, (flatV ps)[k]? = some u → (W.alloc (.cells (flatV ps).toArray 28)).cell? ⟨W.heap.size, k, none⟩ = some u := fun k u hu => by
      rw [alloc_cell]
      simpa using hu
    rw [Nat.zero_add]
    refine ⟨_, _, _, hall _ _ k0, hall _ _ k1, hall _ _ k2, ?_⟩
    rw [List.getElem_map, e]
    exact ⟨a, c, rfl, by unfold maxLen; exact Nat.le_trans hl (by decide), hi⟩
  · obtain ⟨p, hp, rfl⟩ := List.mem_map.1 hx
    obtain ⟨a, c, e, hl, hi⟩ := h p hp
    exact hl
theorem we_lit (s : ByteArray) (hs : s.size ≤ 1048576) (W : World) (ps : List (MV × Value)) (hl : ps.length ≤ 3) (h : ∀ p ∈ ps, RowAt W p.1 p.2) (C : Array Value) (hC : C = (flatV ps).toArray) (n m S : Nat) (hn : primN s.toList = n) (hm : ps.length = m) (hS : W.heap.size = S) :
    Calls Try.prog 6 #[.string s, .slice (some ⟨S, 0, none⟩) m m] (W.alloc (.cells C 28)) fun e w' => PPost (meanR n (ps.map Prod.fst)) (W.alloc (.cells C 28)) e w' := by
  subst hS hm
  have := wePrim_any s hs 0 (some ⟨W.heap.size, 0, none⟩) ps.length (ps.map Prod.fst) (W.alloc (.cells C 28)) (mvs_lit W ps h C hC) (by simp; omega)
  rw [List.length_map, hn] at this
  exact this
theorem row_of {W : World} {lo n : Nat} {x : MV} {v : Value} (h : OwnI W lo n v x.row) (hn : n ≤ W.heap.size) (hl : x.row.length ≤ 1048576) : RowAt W x v := by
  obtain ⟨a, c, hv, hi⟩ := h.ints
  exact ⟨a, c, hv, hl, hi.same (fun _ _ _ => rfl) (Nat.zero_le _) hn⟩
theorem mean_calc (n : Nat) (h1 : 1 ≤ n) (h8 : n ≤ 8) (xn yn : Int) (xr yr : List Int) : meanR n [⟨1, xn, xr⟩, ⟨1, yn, yr⟩] = (⟨(calcR n xn yn).1, (calcR n xn yn).2.1, []⟩, (calcR n xn yn).2.2) := by
  have ht : tpArgs n = [1, 1] := by unfold tpArgs; rw [if_neg (by omega), if_pos h8]
  have hf : fitB n [⟨1, xn, xr⟩, ⟨1, yn, yr⟩] = true := by unfold fitB; rw [ht]; simp; omega
  unfold meanR
  rw [hf, if_pos rfl, prim_calc h8]
/-- Behind a step: two variables are kept. -/
structure LV (w : World) (A : Nat) (x y : MV) (xv yv : Value) (W : World) : Prop where
  bel : Below w.heap.size w W
  lt : A + 1 < W.heap.size
  bA : Blk W A [.int .i64 x.kind, .int .i64 x.num, xv]
  bB : Blk W (A + 1) [.int .i64 y.kind, .int .i64 y.num, yv]
  rA : RowAt W x xv
  rB : RowAt W y yv
theorem LV.step {w W W' : World} {A : Nat} {x y : MV} {xv yv : Value} (h : LV w A x y xv yv W) (hb : Below W.heap.size W W') : LV w A x y xv yv W' :=
  ⟨h.bel.trans (hb.mono h.bel.size), Nat.lt_of_lt_of_le h.lt hb.size, h.bA.below hb (by have := h.lt; omega), h.bB.below hb h.lt, h.rA.kept hb, h.rB.kept hb⟩
theorem LV.call {w W w2 : World} {A : Nat} {x y : MV} {xv yv : Value} (h : LV w A x y xv yv W) {o o2 : Obj} (hb : Below (W.alloc o).heap.size (W.alloc o) w2) : LV w A x y xv yv (w2.alloc o2) :=
  ((h.step (below_new W o)).step hb).step (below_new w2 o2)
theorem LV.facts {w W : World} {A : Nat} {k1 n1 k2 n2 : Int} {r1 r2 : List Int} {xv yv : Value} (h : LV w A ⟨k1, n1, r1⟩ ⟨k2, n2, r2⟩ xv yv W) : (W.cell? ⟨A, 0, none⟩ = some (.int .i64 k1) ∧ W.cell? ⟨A, 1, none⟩ = some (.int .i64 n1) ∧ W.cell? ⟨A, 2, none⟩ = some xv) ∧ W.cell? ⟨A + 1, 0, none⟩ = some (.int .i64 k2) ∧ W.cell? ⟨A + 1, 1, none⟩ = some (.int .i64 n2) ∧ W.cell? ⟨A + 1, 2, none⟩ = some yv :=
  ⟨⟨h.bA.1 0, h.bA.1 1, h.bA.1 2⟩, h.bB.1 0, h.bB.1 1, h.bB.1 2⟩
theorem we_ints (s : ByteArray) (hs : s.size ≤ 1048576) (W : World) (xn yn : Int) (xr yr : List Int) (xv yv : Value) (hx : RowAt W ⟨1, xn, xr⟩ xv) (hy : RowAt W ⟨1, yn, yr⟩ yv) (n S : Nat) (hn : primN s.toList = n) (h1 : 1 ≤ n) (h8 : n ≤ 8) (hS : W.heap.size = S) :
    Calls Try.prog 6 #[.string s, .slice (some ⟨S, 0, none⟩) 2 2] (W.alloc (.cells #[.int .i64 1, .int .i64 xn, xv, .int .i64 1, .int .i64 yn, yv] 28)) fun e w' => PPost (⟨(calcR n xn yn).1, (calcR n xn yn).2.1, []⟩, (calcR n xn yn).2.2) (W.alloc (.cells #[.int .i64 1, .int .i64 xn, xv, .int .i64 1, .int .i64 yn, yv] 28)) e w' := by
  have := we_lit s hs W [(⟨1, xn, xr⟩, xv), (⟨1, yn, yr⟩, yv)] (by simp) (fun p hp => by
    simp only [List.mem_cons, List.not_mem_nil, or_false] at hp
    rcases hp with rfl | rfl
    · exact hx
    · exact hy) #[.int .i64 1, .int .i64 xn, xv, .int .i64 1, .int .i64 yn, yv] rfl n 2 S hn rfl hS
  rw [show meanR n (List.map Prod.fst [((⟨1, xn, xr⟩ : MV), xv), (⟨1, yn, yr⟩, yv)]) = _ from mean_calc n h1 h8 xn yn xr yr] at this
  exact this
theorem wrap_wrap (x : Int) : wrap64 (wrap64 x) = wrap64 x := by
  obtain ⟨h1, h2, _⟩ := wrap_in x
  obtain ⟨g1, g2, k, e⟩ := wrap_in (wrap64 x)
  rw [e] at g1 g2 ⊢
  omega
theorem we_one (W : World) (kd xn : Int) (xr : List Int) (xv : Value) (hk : kd = 3) (hx : RowAt W ⟨kd, xn, xr⟩ xv) (S : Nat) (hS : W.heap.size = S) :
    Calls Try.prog 6 #[.string ⟨#[108, 101, 110]⟩, .slice (some ⟨S, 0, none⟩) 1 1] (W.alloc (.cells #[.int .i64 kd, .int .i64 xn, xv] 28)) fun e w' => PPost (⟨1, xr.length, []⟩, 0) (W.alloc (.cells #[.int .i64 kd, .int .i64 xn, xv] 28)) e w' := by
  subst hk
  have := we_lit ⟨#[108, 101, 110]⟩ (by decide) W [(⟨3, xn, xr⟩, xv)] (by simp) (fun p hp => by
    simp only [List.mem_cons, List.not_mem_nil, or_false] at hp
    subst hp
    exact hx) #[.int .i64 3, .int .i64 xn, xv] rfl 11 1 S (by rw [ByteArray.toList_eq]; decide) rfl hS
  exact this
theorem we_join (W : World) (xn yn : Int) (xr yr : List Int) (xv yv : Value) (hx : RowAt W ⟨3, xn, xr⟩ xv) (hy : RowAt W ⟨3, yn, yr⟩ yv) (S : Nat) (hS : W.heap.size = S) :
    Calls Try.prog 6 #[.string ⟨#[106, 111, 105, 110]⟩, .slice (some ⟨S, 0, none⟩) 2 2] (W.alloc (.cells #[.int .i64 3, .int .i64 xn, xv, .int .i64 3, .int .i64 yn, yv] 28)) fun e w' => PPost (if 16 < xr.length + yr.length then (⟨0, 0, []⟩, 3) else (⟨3, 0, xr ++ yr⟩, 0)) (W.alloc (.cells #[.int .i64 3, .int .i64 xn, xv, .int .i64 3, .int .i64 yn, yv] 28)) e w' := by
  have := we_lit ⟨#[106, 111, 105, 110]⟩ (by decide) W [(⟨3, xn, xr⟩, xv), (⟨3, yn, yr⟩, yv)] (by simp) (fun p hp => by
    simp only [List.mem_cons, List.not_mem_nil, or_false] at hp
    rcases hp with rfl | rfl
    · exact hx
    · exact hy) #[.int .i64 3, .int .i64 xn, xv, .int .i64 3, .int .i64 yn, yv] rfl 13 2 S (by rw [ByteArray.toList_eq]; decide) rfl hS
  exact this
theorem we_put (W : World) (xn yn : Int) (xr yr : List Int) (xv yv : Value) (hx : RowAt W ⟨3, xn, xr⟩ xv) (hy : RowAt W ⟨1, yn, yr⟩ yv) (S : Nat) (hS : W.heap.size = S) :
    Calls Try.prog 6 #[.string ⟨#[112, 117, 116]⟩, .slice (some ⟨S, 0, none⟩) 3 3] (W.alloc (.cells #[.int .i64 3, .int .i64 xn, xv, .int .i64 1, .int .i64 yn, yv, .int .i64 1, .int .i64 77, .slice none 0 0] 28)) fun e w' => PPost (if 0 ≤ yn ∧ yn < xr.length then (⟨3, 0, xr.set yn.toNat 77⟩, 0) else (⟨0, 0, []⟩, 2)) (W.alloc (.cells #[.int .i64 3, .int .i64 xn, xv, .int .i64 1, .int .i64 yn, yv, .int .i64 1, .int .i64 77, .slice none 0 0] 28)) e w' := by
  have := we_lit ⟨#[112, 117, 116]⟩ (by decide) W [(⟨3, xn, xr⟩, xv), (⟨1, yn, yr⟩, yv), (⟨1, 77, []⟩, .slice none 0 0)] (by simp) (fun p hp => by
    simp only [List.mem_cons, List.not_mem_nil, or_false] at hp
    rcases hp with rfl | rfl | rfl
    · exact hx
    · exact hy
    · exact ⟨none, 0, rfl, by simp, .inl rfl⟩) #[.int .i64 3, .int .i64 xn, xv, .int .i64 1, .int .i64 yn, yv, .int .i64 1, .int .i64 77, .slice none 0 0] rfl 12 3 S (by rw [ByteArray.toList_eq]; decide) rfl hS
  exact this
theorem we_at (W : World) (z : MV) (yn : Int) (yr : List Int) (zv yv : Value) (hz : RowAt W z zv) (hy : RowAt W ⟨1, yn, yr⟩ yv) (S : Nat) (hS : W.heap.size = S) :
    Calls Try.prog 6 #[.string ⟨#[97, 116]⟩, .slice (some ⟨S, 0, none⟩) 2 2] (W.alloc (.cells #[.int .i64 z.kind, .int .i64 z.num, zv, .int .i64 1, .int .i64 yn, yv] 28)) fun e w' => PPost (meanR 10 [z, ⟨1, yn, yr⟩]) (W.alloc (.cells #[.int .i64 z.kind, .int .i64 z.num, zv, .int .i64 1, .int .i64 yn, yv] 28)) e w' := by
  exact we_lit ⟨#[97, 116]⟩ (by decide) W [(z, zv), (⟨1, yn, yr⟩, yv)] (by simp) (fun p hp => by
    simp only [List.mem_cons, List.not_mem_nil, or_false] at hp
    rcases hp with rfl | rfl
    · exact hz
    · exact hy) #[.int .i64 z.kind, .int .i64 z.num, zv, .int .i64 1, .int .i64 yn, yv] rfl 10 2 S (by rw [ByteArray.toList_eq]; decide) rfl hS
theorem at_put (xr yr : List Int) (q : Nat) (h : q < xr.length) : meanR 10 [⟨3, 0, xr.set q 77⟩, ⟨1, (q : Int), yr⟩] = (⟨1, 77, []⟩, 0) := by
  have e : meanR 10 [⟨3, 0, xr.set q 77⟩, ⟨1, (q : Int), yr⟩] = (if 0 ≤ (q : Int) ∧ (q : Int) < (xr.set q 77).length then (⟨1, (xr.set q 77).getD (q : Int).toNat 0, []⟩, 0) else (⟨0, 0, []⟩, 2)) := rfl
  rw [e, if_pos ⟨by omega, by rw [List.length_set]; omega⟩]
  simp [List.getD, h]
theorem at_zero (y : MV) : meanR 10 [⟨0, 0, []⟩, y] = (⟨0, 0, []⟩, -1) := by
  unfold meanR
  rw [if_neg]
  unfold fitB
  simp [tpArgs]
theorem tmod_sign (a b : Int) (h : a.tmod b ≠ 0) : (decide (a.tmod b < 0) == decide (a < 0)) = true := by
  by_cases ha : a < 0
  · have h1 : 0 ≤ (-a).tmod b := Int.tmod_nonneg b (by omega)
    rw [Int.neg_tmod] at h1
    have h2 : a.tmod b < 0 := by omega
    simp [h2, ha]
  · have h1 : 0 ≤ a.tmod b := Int.tmod_nonneg b (by omega)
    have h2 : ¬ a.tmod b < 0 := by omega
    simp [h2, ha]
def Cells1 (W : World) (F : List (Nat × Value)) : Prop := ∀ p ∈ F, p.1 < W.heap.size ∧ W.cell? ⟨p.1, 1, none⟩ = some p.2
theorem Cells1.step {W W' : World} {F : List (Nat × Value)} (h : Cells1 W F) (hb : Below W.heap.size W W') : Cells1 W' F := fun p hp => ⟨Nat.lt_of_lt_of_le (h p hp).1 hb.size, (hb.cell (p := ⟨p.1, 1, none⟩) (h p hp).1).trans (h p hp).2⟩
theorem Cells1.call {W w2 : World} {F : List (Nat × Value)} (h : Cells1 W F) {o : Obj} {k n v : Value} {t : TypeId} (hb : Below (W.alloc o).heap.size (W.alloc o) w2) : Cells1 (w2.alloc (.cells #[k, n, v] t)) ((w2.heap.size, n) :: F) := by
  intro p hp
  rcases List.mem_cons.1 hp with rfl | hp
  · exact ⟨by simp, alloc_cell _ _ _ _⟩
  · exact ((h.step (below_new W o)).step hb).step (below_new w2 _) p hp

set_option maxRecDepth 100000 in
set_option maxHeartbeats 16000000 in
theorem fnMeanPrims_walk (a0 : Option Addr) (len0 cap0 : Nat) (z0 : List Int) (w : World) (w0 : IsRow .u8 w a0 len0 cap0 z0) :
    Calls Try.prog 3 #[.slice a0 len0 cap0] w fun e w' => e = .returned (.bool true) ∧ Below w.heap.size w w' := by
  obtain ⟨l0, m0, s0⟩ := w0.src
  have HD := hide (DrawMeanPrim_any a0 len0 cap0 w l0 m0 s0)
  unfold maxLen at m0
  clear w0 s0
  by_cases h0 : 1048576 < len0
  · go_enter Try.func3, Try.ntmps3
    go_wp2
    go_ret
    exact ⟨rfl, Below.refl _ _⟩
  go_enter Try.func3, Try.ntmps3
  go_wp2_with fail
  refine (unhide HD).mono ?_
  rintro e w1 ⟨nm, av, cv, xs, rfl, hx4, hdv, hb1⟩
  have HB1 := hide hb1
  clear hb1 HD
  by_cases hx2 : xs.length < 2
  · clear hdv
    go_wp2
    go_ret
    exact ⟨rfl, unhide HB1⟩
  obtain ⟨x, y, t, rfl⟩ : ∃ x y t, xs = x :: y :: t := by
    match xs, hx2 with
    | x :: y :: t, _ => exact ⟨x, y, t, rfl⟩
    | [x], h => simp at h
    | [], h => simp at h
  have hgx := hdv.2 x (by simp)
  have hgy := hdv.2 y (by simp)
  obtain ⟨b, off, rfl, hbn, hcs⟩ := hdv.1.cells (by simp)
  obtain ⟨xa, xc, p0, p1, p2, p3, p4⟩ := hcs 0 (by simp)
  obtain ⟨ya, yc, s0, s1, s2, s3, s4⟩ := hcs 1 (by simp)
  have e0 : (x :: y :: t)[0] = x := rfl
  have e1 : (x :: y :: t)[1] = y := rfl
  rw [e0] at p0 p1 p2 p3 p4
  rw [e1] at s0 s1 s2 s3 s4
  rw [show off + 0 * 3 = off by omega] at p0 p1 p2
  rw [show off + 1 * 3 = off + 3 by omega] at s0 s1 s2
  obtain ⟨xk, xn, xr⟩ := x
  obtain ⟨yk, yn, yr⟩ := y
  dsimp only at p0 p1 p2 p3 p4 s0 s1 s2 s3 s4
  have hlen : 2 ≤ ((⟨xk, xn, xr⟩ : MV) :: ⟨yk, yn, yr⟩ :: t).length := by simp
  obtain ⟨XS, hXS⟩ : ∃ XS, ((⟨xk, xn, xr⟩ : MV) :: ⟨yk, yn, yr⟩ :: t).length = XS := ⟨_, rfl⟩
  rw [hXS] at hlen hx2 hx4 ⊢
  have HV : Hid (LV w w1.heap.size ⟨xk, xn, xr⟩ ⟨yk, yn, yr⟩ (.slice xa xr.length xc) (.slice ya yr.length yc) ((w1.alloc (.cells #[.int .i64 xk, .int .i64 xn, .slice xa xr.length xc] 28)).alloc (.cells #[.int .i64 yk, .int .i64 yn, .slice ya yr.length yc] 28))) := hide (by
    have hb2 : Below w1.heap.size w1 ((w1.alloc (.cells #[.int .i64 xk, .int .i64 xn, .slice xa xr.length xc] 28)).alloc (.cells #[.int .i64 yk, .int .i64 yn, .slice ya yr.length yc] 28)) := ((Below.refl _ w1).alloc (Nat.le_refl _) _).alloc (by simp) _
    refine ⟨(unhide HB1).trans (hb2.mono (unhide HB1).size), by simp, (Blk.new w1 [.int .i64 xk, .int .i64 xn, .slice xa xr.length xc] 28).old _ (by simp), ?_, RowAt.kept (W := w1) ⟨xa, xc, rfl, p3, p4.same (fun _ _ _ => rfl) (Nat.zero_le _) (Nat.le_refl _)⟩ hb2, RowAt.kept (W := w1) ⟨ya, yc, rfl, s3, s4.same (fun _ _ _ => rfl) (Nat.zero_le _) (Nat.le_refl _)⟩ hb2⟩
    have := Blk.new (w1.alloc (.cells #[.int .i64 xk, .int .i64 xn, .slice xa xr.length xc] 28)) [.int .i64 yk, .int .i64 yn, .slice ya yr.length yc] 28
    rw [alloc_size] at this
    exact this)
  have HGX := hide hgx
  have HGY := hide hgy
  obtain ⟨XL, hXL⟩ : ∃ t, xr.length = t := ⟨_, rfl⟩
  obtain ⟨YL, hYL⟩ : ∃ t, yr.length = t := ⟨_, rfl⟩
  have HXL := hide hXL
  have HYL := hide hYL
  rw [hXL] at p2 HV
  rw [hYL] at s2 HV
  clear hdv hcs hgx hgy p3 p4 s3 s4 e0 e1 hXS hXL hYL
  by_cases hxk : xk = 1
  · subst hxk
    by_cases hyk : yk = 1
    · subst hyk
      have HF0 : Hid (Cells1 ((w1.alloc (.cells #[.int .i64 1, .int .i64 xn, .slice xa XL xc] 28)).alloc (.cells #[.int .i64 1, .int .i64 yn, .slice ya YL yc] 28)) []) := hide (fun p hp => absurd hp (by simp))
      have HV0 := HV
      have HNX := hide ((unhide HGX).2.1 rfl)
      have HC1 := hide (we_ints ⟨#[47]⟩ (by decide) ((w1.alloc (.cells #[.int .i64 1, .int .i64 xn, .slice xa XL xc] 28)).alloc (.cells #[.int .i64 1, .int .i64 yn, .slice ya YL yc] 28)) xn yn _ _ _ _ (unhide HV0).rA (unhide HV0).rB 4 (w1.heap.size + 1 + 1) (by rw [ByteArray.toList_eq]; decide) (by decide) (by decide) (by simp))
      obtain ⟨⟨k1, m1, o1⟩, hR1⟩ : ∃ R, calcR 4 xn yn = R := ⟨_, rfl⟩
      rw [hR1] at HC1
      have HR1 := hide hR1
      clear hR1
      go_wp2_with fail
      refine (unhide HC1).mono ?_
      rintro r u1 ⟨v1, rfl, ho1, hb1⟩
      dsimp only at ho1
      obtain ⟨b1, c1, rfl⟩ := ho1.form
      rw [List.length_nil] at ho1 ⊢
      dsimp only
      have HV1 := hide ((unhide HV0).call (o2 := .cells #[.int .i64 k1, .int .i64 m1, .slice b1 0 c1] 28) hb1)
      have HF1 := hide ((unhide HF0).call (k := .int .i64 k1) (n := .int .i64 m1) (v := .slice b1 0 c1) (t := 28) hb1)
      clear ho1 hb1 HC1 HV0 HF0
      have HC2 := hide (we_ints ⟨#[37]⟩ (by decide) (u1.alloc (.cells #[.int .i64 k1, .int .i64 m1, .slice b1 0 c1] 28)) xn yn _ _ _ _ (unhide HV1).rA (unhide HV1).rB 5 (u1.heap.size + 1) (by rw [ByteArray.toList_eq]; decide) (by decide) (by decide) (by simp))
      obtain ⟨⟨k2, m2, o2⟩, hR2⟩ : ∃ R, calcR 5 xn yn = R := ⟨_, rfl⟩
      rw [hR2] at HC2
      have HR2 := hide hR2
      clear hR2
      obtain ⟨⟨A0, A1, A2⟩, B0, B1, B2⟩ := (unhide HV1).facts
      have ltA := (unhide HV1).lt
      go_wp2_with fail
      refine (unhide HC2).mono ?_
      rintro r u2 ⟨v2, rfl, ho2, hb2⟩
      dsimp only at ho2
      obtain ⟨b2, c2, rfl⟩ := ho2.form
      rw [List.length_nil] at ho2 ⊢
      dsimp only
      have HV2 := hide ((unhide HV1).call (o2 := .cells #[.int .i64 k2, .int .i64 m2, .slice b2 0 c2] 28) hb2)
      have HF2 := hide ((unhide HF1).call (k := .int .i64 k2) (n := .int .i64 m2) (v := .slice b2 0 c2) (t := 28) hb2)
      clear ho2 hb2 HC2 HV1 HF1 A0 A1 A2 B0 B1 B2 ltA
      have HC3 := hide (we_ints ⟨#[60]⟩ (by decide) (u2.alloc (.cells #[.int .i64 k2, .int .i64 m2, .slice b2 0 c2] 28)) xn yn _ _ _ _ (unhide HV2).rA (unhide HV2).rB 6 (u2.heap.size + 1) (by rw [ByteArray.toList_eq]; decide) (by decide) (by decide) (by simp))
      obtain ⟨⟨k3, m3, o3⟩, hR3⟩ : ∃ R, calcR 6 xn yn = R := ⟨_, rfl⟩
      rw [hR3] at HC3
      have HR3 := hide hR3
      clear hR3
      obtain ⟨⟨A0, A1, A2⟩, B0, B1, B2⟩ := (unhide HV2).facts
      have ltA := (unhide HV2).lt
      go_wp2_with fail
      refine (unhide HC3).mono ?_
      rintro r u3 ⟨v3, rfl, ho3, hb3⟩
      dsimp only at ho3
      obtain ⟨b3, c3, rfl⟩ := ho3.form
      rw [List.length_nil] at ho3 ⊢
      dsimp only
      have HV3 := hide ((unhide HV2).call (o2 := .cells #[.int .i64 k3, .int .i64 m3, .slice b3 0 c3] 28) hb3)
      have HF3 := hide ((unhide HF2).call (k := .int .i64 k3) (n := .int .i64 m3) (v := .slice b3 0 c3) (t := 28) hb3)
      clear ho3 hb3 HC3 HV2 HF2 A0 A1 A2 B0 B1 B2 ltA
      have HC4 := hide (we_ints ⟨#[61]⟩ (by decide) (u3.alloc (.cells #[.int .i64 k3, .int .i64 m3, .slice b3 0 c3] 28)) xn yn _ _ _ _ (unhide HV3).rA (unhide HV3).rB 8 (u3.heap.size + 1) (by rw [ByteArray.toList_eq]; decide) (by decide) (by decide) (by simp))
      obtain ⟨⟨k4, m4, o4⟩, hR4⟩ : ∃ R, calcR 8 xn yn = R := ⟨_, rfl⟩
      rw [hR4] at HC4
      have HR4 := hide hR4
      clear hR4
      obtain ⟨⟨A0, A1, A2⟩, B0, B1, B2⟩ := (unhide HV3).facts
      have ltA := (unhide HV3).lt
      go_wp2_with fail
      refine (unhide HC4).mono ?_
      rintro r u4 ⟨v4, rfl, ho4, hb4⟩
      dsimp only at ho4
      obtain ⟨b4, c4, rfl⟩ := ho4.form
      rw [List.length_nil] at ho4 ⊢
      dsimp only
      have HV4 := hide ((unhide HV3).call (o2 := .cells #[.int .i64 k4, .int .i64 m4, .slice b4 0 c4] 28) hb4)
      have HF4 := hide ((unhide HF3).call (k := .int .i64 k4) (n := .int .i64 m4) (v := .slice b4 0 c4) (t := 28) hb4)
      clear ho4 hb4 HC4 HV3 HF3 A0 A1 A2 B0 B1 B2 ltA
      have HC5 := hide (we_ints ⟨#[60]⟩ (by decide) (u4.alloc (.cells #[.int .i64 k4, .int .i64 m4, .slice b4 0 c4] 28)) yn xn _ _ _ _ (unhide HV4).rB (unhide HV4).rA 6 (u4.heap.size + 1) (by rw [ByteArray.toList_eq]; decide) (by decide) (by decide) (by simp))
      obtain ⟨⟨k5, m5, o5⟩, hR5⟩ : ∃ R, calcR 6 yn xn = R := ⟨_, rfl⟩
      rw [hR5] at HC5
      have HR5 := hide hR5
      clear hR5
      obtain ⟨⟨A0, A1, A2⟩, B0, B1, B2⟩ := (unhide HV4).facts
      have ltA := (unhide HV4).lt
      go_wp2_with fail
      refine (unhide HC5).mono ?_
      rintro r u5 ⟨v5, rfl, ho5, hb5⟩
      dsimp only at ho5
      obtain ⟨b5, c5, rfl⟩ := ho5.form
      rw [List.length_nil] at ho5 ⊢
      dsimp only
      have HV5 := hide ((unhide HV4).call (o2 := .cells #[.int .i64 k5, .int .i64 m5, .slice b5 0 c5] 28) hb5)
      have HF5 := hide ((unhide HF4).call (k := .int .i64 k5) (n := .int .i64 m5) (v := .slice b5 0 c5) (t := 28) hb5)
      clear ho5 hb5 HC5 HV4 HF4 A0 A1 A2 B0 B1 B2 ltA
      have h3 := unhide HR3
      have h4 := unhide HR4
      have h5 := unhide HR5
      rw [show calcR 6 xn yn = (2, boolI (decide (xn < yn)), 0) from rfl] at h3
      rw [show calcR 8 xn yn = (2, boolI (xn == yn), 0) from rfl] at h4
      rw [show calcR 6 yn xn = (2, boolI (decide (yn < xn)), 0) from rfl] at h5
      simp only [Prod.mk.injEq] at h3 h4 h5
      obtain ⟨rfl, hm3, rfl⟩ := h3
      obtain ⟨rfl, hm4, rfl⟩ := h4
      obtain ⟨rfl, hm5, rfl⟩ := h5
      have HM : Hid ((m3 = 1 ∧ m4 = 0 ∧ m5 = 0) ∨ (m3 = 0 ∧ m4 = 1 ∧ m5 = 0) ∨ (m3 = 0 ∧ m4 = 0 ∧ m5 = 1)) := hide (by
        rw [← hm3, ← hm4, ← hm5]
        rcases Int.lt_trichotomy xn yn with h | h | h
        · exact .inl ⟨by simp [boolI, h], by simp [boolI]; omega, by simp [boolI]; omega⟩
        · exact .inr (.inl ⟨by simp [boolI]; omega, by simp [boolI, h], by simp [boolI]; omega⟩)
        · exact .inr (.inr ⟨by simp [boolI]; omega, by simp [boolI]; omega, by simp [boolI, h]⟩))
      obtain ⟨⟨A0, A1, A2⟩, B0, B1, B2⟩ := (unhide HV5).facts
      have ltA := (unhide HV5).lt
      have C1 := (unhide HF5) (u1.heap.size, .int .i64 m1) (by simp)
      have C2 := (unhide HF5) (u2.heap.size, .int .i64 m2) (by simp)
      have C3 := (unhide HF5) (u3.heap.size, .int .i64 m3) (by simp)
      have C4 := (unhide HF5) (u4.heap.size, .int .i64 m4) (by simp)
      obtain ⟨D1, E1⟩ := C1
      obtain ⟨D2, E2⟩ := C2
      obtain ⟨D3, E3⟩ := C3
      obtain ⟨D4, E4⟩ := C4
      have HBF := hide (unhide HV5).bel
      dsimp only at D1 D2 D3 D4 E1 E2 E3 E4
      clear hm3 hm4 hm5 HR3 HR4 HR5 HV5 HF5
      by_cases hy0 : yn = 0
      · have g1 := unhide HR1
        have g2 := unhide HR2
        rw [show calcR 4 xn yn = (0, 0, 1) by simp [calcR, hy0]] at g1
        rw [show calcR 5 xn yn = (0, 0, 1) by simp [calcR, hy0]] at g2
        simp only [Prod.mk.injEq] at g1 g2
        obtain ⟨rfl, rfl, rfl⟩ := g1
        obtain ⟨rfl, rfl, rfl⟩ := g2
        subst hy0
        clear HR1 HR2
        rcases unhide HM with ⟨rfl, rfl, rfl⟩ | ⟨rfl, rfl, rfl⟩ | ⟨rfl, rfl, rfl⟩
        · go_wp2
          go_ret
          exact ⟨rfl, unhide HBF⟩
        · go_wp2
          go_ret
          exact ⟨rfl, unhide HBF⟩
        · go_wp2
          go_ret
          exact ⟨rfl, unhide HBF⟩
      · have g1 := unhide HR1
        have g2 := unhide HR2
        rw [show calcR 4 xn yn = (1, wrap64 (xn.tdiv yn), 0) by simp [calcR, hy0]] at g1
        rw [show calcR 5 xn yn = (1, xn.tmod yn, 0) by simp [calcR, hy0]] at g2
        simp only [Prod.mk.injEq] at g1 g2
        obtain ⟨rfl, hm1, rfl⟩ := g1
        obtain ⟨rfl, hm2, rfl⟩ := g2
        have hdb : (wrap64 (wrap64 (m1 * yn) + m2) == xn) = true := by
          rw [← hm1, ← hm2, div_back xn yn (unhide HNX).1 (unhide HNX).2]
          simp
        have HSG : Hid (m2 ≠ 0 → (decide (m2 < 0) == decide (xn < 0)) = true) := hide (fun h => by rw [← hm2] at h ⊢; exact tmod_sign xn yn h)
        have hyb : (yn == 0) = false := by simpa using hy0
        clear HR1 HR2 hm1 hm2
        by_cases hr0 : m2 = 0
        · subst hr0
          have hdb2 : (wrap64 (m1 * yn) == xn) = true := by
            have e : wrap64 (m1 * yn) + 0 = wrap64 (m1 * yn) := Int.add_zero _
            rw [e, wrap_wrap] at hdb
            exact hdb
          have hdb3 : (wrap64 (wrap64 (m1 * yn)) == xn) = true := by rw [wrap_wrap]; exact hdb2
          rcases unhide HM with ⟨rfl, rfl, rfl⟩ | ⟨rfl, rfl, rfl⟩ | ⟨rfl, rfl, rfl⟩
          · go_wp2
            go_ret
            exact ⟨rfl, unhide HBF⟩
          · go_wp2
            go_ret
            exact ⟨rfl, unhide HBF⟩
          · go_wp2
            go_ret
            exact ⟨rfl, unhide HBF⟩
        · have hr1 : (m2 == 0) = false := by simpa using hr0
          have hsg := unhide HSG hr0
          rcases unhide HM with ⟨rfl, rfl, rfl⟩ | ⟨rfl, rfl, rfl⟩ | ⟨rfl, rfl, rfl⟩
          · go_wp2
            go_ret
            exact ⟨rfl, unhide HBF⟩
          · go_wp2
            go_ret
            exact ⟨rfl, unhide HBF⟩
          · go_wp2
            go_ret
            exact ⟨rfl, unhide HBF⟩
    · have hyk1 : (yk == 1) = false := by simpa using hyk
      go_wp2
      go_ret
      exact ⟨rfl, (unhide HV).bel⟩
  have hxk1 : (xk == 1) = false := by simpa using hxk
  by_cases hx3 : xk = 3
  · subst hx3
    have HXL16 : XL ≤ 16 := by rw [← unhide HXL]; exact (unhide HGX).2.2
    have HYL16 : YL ≤ 16 := by rw [← unhide HYL]; exact (unhide HGY).2.2
    have HF0 : Hid (Cells1 ((w1.alloc (.cells #[.int .i64 3, .int .i64 xn, .slice xa XL xc] 28)).alloc (.cells #[.int .i64 yk, .int .i64 yn, .slice ya YL yc] 28)) []) := hide (fun p hp => absurd hp (by simp))
    have HC1 := hide (we_one ((w1.alloc (.cells #[.int .i64 3, .int .i64 xn, .slice xa XL xc] 28)).alloc (.cells #[.int .i64 yk, .int .i64 yn, .slice ya YL yc] 28)) 3 xn xr (.slice xa XL xc) rfl (unhide HV).rA (w1.heap.size + 1 + 1) (by simp))
    rw [unhide HXL] at HC1
    go_wp2_with fail
    refine (unhide HC1).mono ?_
    rintro r u1 ⟨v1, rfl, ho1, hb1⟩
    dsimp only at ho1
    obtain ⟨b1, c1, rfl⟩ := ho1.form
    rw [List.length_nil] at ho1 ⊢
    dsimp only
    have HV1 := hide ((unhide HV).call (o2 := .cells #[.int .i64 1, .int .i64 XL, .slice b1 0 c1] 28) hb1)
    have HF1 := hide ((unhide HF0).call (k := .int .i64 1) (n := .int .i64 XL) (v := .slice b1 0 c1) (t := 28) hb1)
    clear ho1 hb1 HC1 HV HF0
    obtain ⟨⟨A0, A1, A2⟩, B0, B1, B2⟩ := (unhide HV1).facts
    have ltA := (unhide HV1).lt
    by_cases hy3 : yk = 3
    · subst hy3
      have HC2 := hide (we_join (u1.alloc (.cells #[.int .i64 1, .int .i64 XL, .slice b1 0 c1] 28)) xn yn xr yr (.slice xa XL xc) (.slice ya YL yc) (unhide HV1).rA (unhide HV1).rB (u1.heap.size + 1) (by simp))
      rw [unhide HXL, unhide HYL] at HC2
      obtain ⟨R, hR⟩ : ∃ R, (if 16 < XL + YL then ((⟨0, 0, []⟩ : MV), (3 : Int)) else (⟨3, 0, xr ++ yr⟩, 0)) = R := ⟨_, rfl⟩
      rw [hR] at HC2
      have HRR : Hid ((16 < XL + YL ∧ R.2 = 3 ∧ R.1.row.length = 0) ∨ (¬ 16 < XL + YL ∧ R.2 = 0 ∧ R.1.row.length = XL + YL)) := hide (by
        rw [← hR]
        by_cases h : 16 < XL + YL
        · rw [if_pos h]; exact .inl ⟨h, rfl, rfl⟩
        · rw [if_neg h]; exact .inr ⟨h, rfl, by rw [List.length_append, unhide HXL, unhide HYL]⟩)
      obtain ⟨⟨kd, nu, rr⟩, co⟩ := R
      dsimp only at HRR
      clear hR
      go_wp2_with fail
      refine (unhide HC2).mono ?_
      rintro r u2 ⟨v2, rfl, ho2, hb2⟩
      dsimp only at ho2
      obtain ⟨b2, c2, rfl⟩ := ho2.form
      dsimp only
      obtain ⟨JL, hJL⟩ : ∃ t, rr.length = t := ⟨_, rfl⟩
      rw [hJL] at HRR ⊢
      have HV2 := hide ((unhide HV1).call (o2 := .cells #[.int .i64 kd, .int .i64 nu, .slice b2 JL c2] 28) hb2)
      have HF2 := hide ((unhide HF1).call (k := .int .i64 kd) (n := .int .i64 nu) (v := .slice b2 JL c2) (t := 28) hb2)
      have HJ2 := hide (Blk.new u2 [.int .i64 kd, .int .i64 nu, .slice b2 JL c2] 28)
      clear ho2 hb2 HC2 HV1 HF1 A0 A1 A2 B0 B1 B2 ltA hJL
      obtain ⟨⟨A0, A1, A2⟩, B0, B1, B2⟩ := (unhide HV2).facts
      have ltA := (unhide HV2).lt
      have HC3 := hide (we_one (u2.alloc (.cells #[.int .i64 kd, .int .i64 nu, .slice b2 JL c2] 28)) 3 yn yr (.slice ya YL yc) rfl (unhide HV2).rB (u2.heap.size + 1) (by simp))
      rw [unhide HYL] at HC3
      go_wp2_with fail
      refine (unhide HC3).mono ?_
      rintro r u3 ⟨v3, rfl, ho3, hb3⟩
      dsimp only at ho3
      obtain ⟨b3, c3, rfl⟩ := ho3.form
      rw [List.length_nil] at ho3 ⊢
      dsimp only
      have HV3 := hide ((unhide HV2).call (o2 := .cells #[.int .i64 1, .int .i64 YL, .slice b3 0 c3] 28) hb3)
      have HF3 := hide ((unhide HF2).call (k := .int .i64 1) (n := .int .i64 YL) (v := .slice b3 0 c3) (t := 28) hb3)
      have hJ3 := (((unhide HJ2).old (.cells #[.int .i64 3, .int .i64 yn, .slice ya YL yc] 28) (by simp)).below hb3 (by simp; omega)).old (.cells #[.int .i64 1, .int .i64 YL, .slice b3 0 c3] 28) (by have := hb3.size; simp at this; omega)
      have J2 := hJ3.cellAt (i := 2) rfl
      have hj3 : u2.heap.size < u3.heap.size := by have := hb3.size; simp at this; omega
      obtain ⟨D1, E1⟩ := (unhide HF3) (u1.heap.size, .int .i64 XL) (by simp)
      dsimp only at D1 E1
      have HBF := hide (unhide HV3).bel
      clear ho3 hb3 HC3 HV2 HF2 hJ3 A0 A1 A2 B0 B1 B2 ltA HV3 HF3
      rcases unhide HRR with ⟨h16, rfl, rfl⟩ | ⟨h16, rfl, rfl⟩
      · go_wp2
        go_ret
        exact ⟨rfl, unhide HBF⟩
      · have hjj : (((XL + YL : Nat) : Int) == (XL : Int) + (YL : Int)) = true := by simp
        go_wp2
        go_ret
        exact ⟨rfl, unhide HBF⟩
    by_cases hy1 : yk = 1
    · subst hy1
      by_cases hin : 0 ≤ yn ∧ yn < (XL : Int)
      · obtain ⟨q, hq⟩ := Int.eq_ofNat_of_zero_le hin.1
        subst hq
        have hqx : q < xr.length := by rw [unhide HXL]; omega
        have hqXL : q < XL := by omega
        have HC2 := hide (we_put (u1.alloc (.cells #[.int .i64 1, .int .i64 XL, .slice b1 0 c1] 28)) xn (q : Int) xr yr (.slice xa XL xc) (.slice ya YL yc) (unhide HV1).rA (unhide HV1).rB (u1.heap.size + 1) (by simp))
        rw [unhide HXL, if_pos hin, Int.toNat_natCast] at HC2
        go_wp2_with fail
        refine (unhide HC2).mono ?_
        rintro r u2 ⟨v2, rfl, ho2, hb2⟩
        dsimp only at ho2
        obtain ⟨b2, c2, rfl⟩ := ho2.form
        have hjl : (xr.set q 77 : List Int).length = XL := by rw [List.length_set]; exact unhide HXL
        rw [hjl]
        have hrow2 : RowAt (u2.alloc (.cells #[.int .i64 3, .int .i64 0, .slice b2 XL c2] 28)) ⟨3, 0, xr.set q 77⟩ (.slice b2 XL c2) := by
          have := row_of (x := ⟨3, 0, xr.set q 77⟩) ho2 (Nat.le_refl _) (by show (xr.set q 77 : List Int).length ≤ 1048576; rw [hjl]; omega)
          rw [hjl] at this
          exact this.kept (below_new u2 _)
        dsimp only
        have HV2 := hide ((unhide HV1).call (o2 := .cells #[.int .i64 3, .int .i64 0, .slice b2 XL c2] 28) hb2)
        have HF2 := hide ((unhide HF1).call (k := .int .i64 3) (n := .int .i64 0) (v := .slice b2 XL c2) (t := 28) hb2)
        have HJ2 := hide (Blk.new u2 [.int .i64 3, .int .i64 0, .slice b2 XL c2] 28)
        have HC3 := hide (we_at (u2.alloc (.cells #[.int .i64 3, .int .i64 0, .slice b2 XL c2] 28)) ⟨3, 0, xr.set q 77⟩ (q : Int) yr (.slice b2 XL c2) (.slice ya YL yc) hrow2 (unhide HV2).rB (u2.heap.size + 1) (by simp))
        rw [at_put xr yr q hqx] at HC3
        clear ho2 hb2 HC2 HV1 HF1 A0 A1 A2 B0 B1 B2 ltA hjl hrow2
        obtain ⟨⟨A0, A1, A2⟩, B0, B1, B2⟩ := (unhide HV2).facts
        have ltA := (unhide HV2).lt
        go_wp2_with fail
        refine (unhide HC3).mono ?_
        rintro r u3 ⟨v3, rfl, ho3, hb3⟩
        dsimp only at ho3
        obtain ⟨b3, c3, rfl⟩ := ho3.form
        rw [List.length_nil] at ho3 ⊢
        dsimp only
        have HV3 := hide ((unhide HV2).call (o2 := .cells #[.int .i64 1, .int .i64 77, .slice b3 0 c3] 28) hb3)
        have HF3 := hide ((unhide HF2).call (k := .int .i64 1) (n := .int .i64 77) (v := .slice b3 0 c3) (t := 28) hb3)
        have hJ3 := (((unhide HJ2).old (.cells #[.int .i64 3, .int .i64 0, .slice b2 XL c2, .int .i64 1, .int .i64 q, .slice ya YL yc] 28) (by simp)).below hb3 (by simp; omega)).old (.cells #[.int .i64 1, .int .i64 77, .slice b3 0 c3] 28) (by have := hb3.size; simp at this; omega)
        have J2 := hJ3.cellAt (i := 2) rfl
        have hj3 : u2.heap.size < u3.heap.size := by have := hb3.size; simp at this; omega
        obtain ⟨D1, E1⟩ := (unhide HF3) (u1.heap.size, .int .i64 XL) (by simp)
        dsimp only at D1 E1
        clear A0 A1 A2 B0 B1 B2 ltA
        obtain ⟨⟨A0, A1, A2⟩, B0, B1, B2⟩ := (unhide HV3).facts
        have ltA := (unhide HV3).lt
        have HBF := hide (unhide HV3).bel
        clear ho3 hb3 HC3 HV2 HF2 hJ3 HV3 HF3
        have hxx : ((XL : Int) == (XL : Int)) = true := by simp
        go_wp2
        go_ret
        exact ⟨rfl, unhide HBF⟩
      · have HC2 := hide (we_put (u1.alloc (.cells #[.int .i64 1, .int .i64 XL, .slice b1 0 c1] 28)) xn yn xr yr (.slice xa XL xc) (.slice ya YL yc) (unhide HV1).rA (unhide HV1).rB (u1.heap.size + 1) (by simp))
        rw [unhide HXL, if_neg hin] at HC2
        go_wp2_with fail
        refine (unhide HC2).mono ?_
        rintro r u2 ⟨v2, rfl, ho2, hb2⟩
        dsimp only at ho2
        obtain ⟨b2, c2, rfl⟩ := ho2.form
        have hjl : ([] : List Int).length = 0 := by simp
        rw [hjl]
        have hrow2 : RowAt (u2.alloc (.cells #[.int .i64 0, .int .i64 0, .slice b2 0 c2] 28)) ⟨0, 0, []⟩ (.slice b2 0 c2) := by
          have := row_of (x := ⟨0, 0, []⟩) ho2 (Nat.le_refl _) (by show ([] : List Int).length ≤ 1048576; rw [hjl]; omega)
          rw [hjl] at this
          exact this.kept (below_new u2 _)
        dsimp only
        have HV2 := hide ((unhide HV1).call (o2 := .cells #[.int .i64 0, .int .i64 0, .slice b2 0 c2] 28) hb2)
        have HF2 := hide ((unhide HF1).call (k := .int .i64 0) (n := .int .i64 0) (v := .slice b2 0 c2) (t := 28) hb2)
        have HJ2 := hide (Blk.new u2 [.int .i64 0, .int .i64 0, .slice b2 0 c2] 28)
        have HC3 := hide (we_at (u2.alloc (.cells #[.int .i64 0, .int .i64 0, .slice b2 0 c2] 28)) ⟨0, 0, []⟩ yn yr (.slice b2 0 c2) (.slice ya YL yc) hrow2 (unhide HV2).rB (u2.heap.size + 1) (by simp))
        rw [at_zero] at HC3
        clear ho2 hb2 HC2 HV1 HF1 A0 A1 A2 B0 B1 B2 ltA hjl hrow2
        obtain ⟨⟨A0, A1, A2⟩, B0, B1, B2⟩ := (unhide HV2).facts
        have ltA := (unhide HV2).lt
        go_wp2_with fail
        refine (unhide HC3).mono ?_
        rintro r u3 ⟨v3, rfl, ho3, hb3⟩
        dsimp only at ho3
        obtain ⟨b3, c3, rfl⟩ := ho3.form
        rw [List.length_nil] at ho3 ⊢
        dsimp only
        have HV3 := hide ((unhide HV2).call (o2 := .cells #[.int .i64 0, .int .i64 0, .slice b3 0 c3] 28) hb3)
        have HF3 := hide ((unhide HF2).call (k := .int .i64 0) (n := .int .i64 0) (v := .slice b3 0 c3) (t := 28) hb3)
        have hJ3 := (((unhide HJ2).old (.cells #[.int .i64 0, .int .i64 0, .slice b2 0 c2, .int .i64 1, .int .i64 yn, .slice ya YL yc] 28) (by simp)).below hb3 (by simp; omega)).old (.cells #[.int .i64 0, .int .i64 0, .slice b3 0 c3] 28) (by have := hb3.size; simp at this; omega)
        have J2 := hJ3.cellAt (i := 2) rfl
        have hj3 : u2.heap.size < u3.heap.size := by have := hb3.size; simp at this; omega
        obtain ⟨D1, E1⟩ := (unhide HF3) (u1.heap.size, .int .i64 XL) (by simp)
        dsimp only at D1 E1
        clear A0 A1 A2 B0 B1 B2 ltA
        obtain ⟨⟨A0, A1, A2⟩, B0, B1, B2⟩ := (unhide HV3).facts
        have ltA := (unhide HV3).lt
        have HBF := hide (unhide HV3).bel
        clear ho3 hb3 HC3 HV2 HF2 hJ3 HV3 HF3
        by_cases hlt : yn < 0
        · go_wp2
          go_ret
          exact ⟨rfl, unhide HBF⟩
        · have hge : (XL : Int) ≤ yn := by
            rcases Int.lt_or_le yn (XL : Int) with h | h
            · exact absurd ⟨by omega, h⟩ hin
            · exact h
          go_wp2
          go_ret
          exact ⟨rfl, unhide HBF⟩
    · have hyk3 : (yk == 3) = false := by simpa using hy3
      have hyk1 : (yk != 1) = true := by simpa using hy1
      have HBF := hide (unhide HV1).bel
      go_wp2
      go_ret
      exact ⟨rfl, unhide HBF⟩
  · have hxk3 : (xk != 3) = true := by simpa using hx3
    go_wp2
    go_ret
    exact ⟨rfl, (unhide HV).bel⟩
end Go.Proofs.Ytjnahhalgckggaa
