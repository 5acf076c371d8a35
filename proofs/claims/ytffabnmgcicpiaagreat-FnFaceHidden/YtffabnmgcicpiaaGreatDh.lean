/- The walk of l22Fun. Conditions: the reader can be read. -/
import Derived.Test.YtffabnmgcicpiaaGreatDg
import Derived.Test.YtffabnmgcicpiaaGreatRv
namespace Go.Proofs.YtffabnmgcicpiaaGreat
open Go.RowKit Go.PlainAid

theorem StayD.sz {S : Nat → Prop} {w W : World} (h : StayD S w W) : w.heap.size ≤ W.heap.size := h.1
theorem StayD.blk {S : Nat → Prop} {w W : World} (h : StayD S w W) (b : Nat) (hb : b < w.heap.size) (hs : S b) : W.heap[b]? = w.heap[b]? := h.2 b hb hs
/-- A value that is a function and stays one where the blocks of S stay. -/
abbrev KeepF (S : Nat → Prop) (h : Nat) (w : World) (v : Value) (f : TF) : Prop := KpD S w (fun W => IsFun W 0 W.heap.size h v f)
/-- The two cells of a row's parameter. -/
def EltA (_ : World) (x : TA) (C : List Value) : Prop := C = [.string x.name, .int .i64 x.type] ∧ x.name.size ≤ maxLen
theorem ReadD.args {a : Option Addr} {ps : List (TA × List Value)} {W : World} (hr : ReadD EltA 2 a ps W) : IsArgs (IsArg W 0 W.heap.size) W 0 W.heap.size a (ps.map Prod.fst) := by
  rcases hr with rfl | ⟨g, rfl, hg, hc⟩
  · exact .inl rfl
  · refine .inr ⟨g, 0, rfl, Nat.zero_le _, hg, fun j hj => ?_⟩
    have hj' : j < ps.length := by simpa using hj
    obtain ⟨h1, h2, e, hz⟩ := hc j hj'
    have hx : ∀ i, i < 2 → W.cell? ⟨g, 0 + j * 2 + i, none⟩ = [Value.string ps[j].1.name, .int .i64 ps[j].1.type][i]? := fun i hi => by rw [Nat.zero_add, h1 i hi, e]
    refine ⟨_, _, hx 0 (by omega), hx 1 (by omega), ?_⟩
    rw [List.getElem_map]
    exact ⟨rfl, hz⟩
/-- One parameter more in a row, beside a block that stays, and a reader. -/
theorem argsPush {B E lo N p q : Nat} {a0 : Option Addr} {len cap : Nat} {W1 w : World} {sa : Option Addr} {sc : Nat} {ps : List (TA × List Value)} {C : List Value}
    (hO : OwnD EltA 2 75 (fun b => lo ≤ b) lo w (.slice sa ps.length sc) ps) (hlo : lo ≤ w.heap.size) (hE : E < lo) (hb : Blk w E C) (hR : RdM B a0 len cap N W1 w p q) (hB : B < W1.heap.size) (hW : W1.heap.size ≤ lo) (hn : ps.length + 1 ≤ 10000) (x : TA) (hx : x.name.size ≤ maxLen) :
    ∃ g c5 w5, (Builtin.append_ #[29, 29] 29 #[.slice sa ps.length sc, .slice (some ⟨w.heap.size, 0, none⟩) 1 1]).run Tryz.prog (w.alloc (.cells #[.string x.name, .int .i64 x.type] 75)) = .ok (.slice (some ⟨g, 0, none⟩) (ps.length + 1) c5) w5 ∧
      OwnD EltA 2 75 (fun b => lo ≤ b) lo w5 (.slice (some ⟨g, 0, none⟩) (ps.length + 1) c5) (ps ++ [(x, [.string x.name, .int .i64 x.type])]) ∧ Blk w5 E C ∧ RdM B a0 len cap N W1 w5 p q ∧ lo ≤ w5.heap.size ∧ StayD (fun b => b < lo) w w5 := by
  obtain ⟨i0, hi, hz0, hz1, hz2⟩ := info_parts infoArg
  obtain ⟨g, c5, w5, r5, o5, y5⟩ := hO.push hlo (fun _ h => h) 29 i0 _ 24 Tryz.underlying29 hi hz0 hz1 hz2 rfl (by omega) (by omega) x [.string x.name, .int .i64 x.type] rfl (by
    intro u hu
    simp only [List.mem_cons, List.not_mem_nil, or_false] at hu
    rcases hu with rfl | rfl <;> rfl) hn (fun _ _ => ⟨rfl, hx⟩)
  have hown : ∀ g, (Value.slice sa ps.length sc).ownBlock = some g → lo ≤ g := fun g hg => (hO.row.lt g hg).1
  have hsz : w.heap.size + 1 ≤ w5.heap.size := by have := y5.size; rw [alloc_size] at this; exact this
  have hst : StayD (fun b => b < lo) w w5 := ((StayD.refl _ w).alloc _).grown y5 (fun b _ hs e => by have := hown b e.symm; omega)
  exact ⟨g, c5, w5, r5, o5, hb.ofb (hst.2 E (by omega) hE), (hR.alloc hB _).grown hB y5 (fun k hk => by have := hown k hk; omega), by omega, hst⟩
/-- The body that is nothing. -/
def zeroE : TE := .node 0 0 ⟨#[]⟩ ⟨#[]⟩ []
def numsT5 : List Int := [1, 1, 1, 2, 3]
def numsT4 : List Int := [1, 1, 2, 3]
theorem numsT_in (z : Int) (h : z ∈ numsT5 ∨ z ∈ numsT4) : 1 ≤ z ∧ z ≤ 3 := by
  simp only [numsT5, numsT4, List.mem_cons, List.not_mem_nil, or_false] at h
  omega

/-- One parameter more in a row, its cells lying where they lie. -/
theorem argsPushG {B E lo N p q : Nat} {a0 : Option Addr} {len cap : Nat} {W1 w : World} {sa : Option Addr} {sc : Nat} {ps : List (TA × List Value)} {C : List Value}
    (hO : OwnD EltA 2 75 (fun b => lo ≤ b) lo w (.slice sa ps.length sc) ps) (hlo : lo ≤ w.heap.size) (hE : E < lo) (hb : Blk w E C) (hR : RdM B a0 len cap N W1 w p q) (hB : B < W1.heap.size) (hW : W1.heap.size ≤ lo) (hn : ps.length + 1 ≤ 10000) (x : TA) (hx : x.name.size ≤ maxLen)
    (g : Nat) (h0 : w.cell? ⟨g, 0, none⟩ = some (.string x.name)) (h1 : w.cell? ⟨g, 1, none⟩ = some (.int .i64 x.type)) :
    ∃ g5 c5 w5, (Builtin.append_ #[29, 29] 29 #[.slice sa ps.length sc, .slice (some ⟨g, 0, none⟩) 1 1]).run Tryz.prog w = .ok (.slice (some ⟨g5, 0, none⟩) (ps.length + 1) c5) w5 ∧
      OwnD EltA 2 75 (fun b => lo ≤ b) lo w5 (.slice (some ⟨g5, 0, none⟩) (ps.length + 1) c5) (ps ++ [(x, [.string x.name, .int .i64 x.type])]) ∧ Blk w5 E C ∧ RdM B a0 len cap N W1 w5 p q ∧ lo ≤ w5.heap.size ∧ StayD (fun b => b < lo) w w5 := by
  obtain ⟨i0, hi, hz0, hz1, hz2⟩ := info_parts infoArg
  obtain ⟨g5, c5, w5, r5, o5, y5⟩ := hO.more hlo 29 i0 _ 24 Tryz.underlying29 hi hz0 hz1 hz2 rfl (by omega) (by omega) ⟨g, 0, none⟩ 1 [(x, [.string x.name, .int .i64 x.type])] (by simp) (by
    intro p hp
    rw [List.mem_singleton] at hp
    subst hp
    refine ⟨rfl, fun u hu => ?_⟩
    simp only [List.mem_cons, List.not_mem_nil, or_false] at hu
    rcases hu with rfl | rfl <;> rfl) (fun j u hu => by
    rw [Addr.add_lit, Nat.zero_add]
    match j, hu with
    | 0, hu => cases hu; exact h0
    | 1, hu => cases hu; exact h1
    | j + 2, hu => simp at hu) hn (by
    intro p hp
    rw [List.mem_singleton] at hp
    subst hp
    exact fun _ _ => ⟨rfl, hx⟩)
  have hown : ∀ g, (Value.slice sa ps.length sc).ownBlock = some g → lo ≤ g := fun g hg => (hO.row.lt g hg).1
  have hst : StayD (fun b => b < lo) w w5 := (StayD.refl _ w).grown y5 (fun b _ hs e => by have := hown b e.symm; omega)
  exact ⟨g5, c5, w5, r5, o5, hb.ofb (hst.2 E (by omega) hE), hR.grown hB y5 (fun k hk => by have := hown k hk; omega), Nat.le_trans hlo y5.size, hst⟩
/-- What is known of each slot that the appending of a parameter writes. -/
def FunC (B F N : Nat) (sa : Option Addr) (n sc k : Nat) (sk : ByteArray) : Nat → Value → World → Prop
  | 0, v, _ => v = .pointer (some ⟨F, 2, none⟩)
  | 1, v, _ => v = .slice sa n sc
  | 2, v, w => ∃ g, v = .slice (some ⟨g, 0, none⟩) 3 3 ∧ N ≤ g ∧ g < w.heap.size ∧ w.cell? ⟨g, k, none⟩ = some (.string sk)
  | 3, v, _ => v = .int .i64 ((k + 1 : Nat) : Int)
  | 4, v, _ => v = .int .i64 (k : Int)
  | 5, v, w => ∃ g, v = .pointer (some ⟨g, k, none⟩) ∧ N ≤ g ∧ g < w.heap.size ∧ w.cell? ⟨g, k, none⟩ = some (.string sk)
  | 6, v, _ => v = .string sk
  | 7, v, _ => v = .pointer (some ⟨B, 0, none⟩)
  | 8, v, w => ∃ g, v = .slice (some ⟨g, 0, none⟩) 4 4 ∧ N ≤ g ∧ g < w.heap.size ∧ IsNums w g numsT4
  | 9, v, _ => ∃ z, z ∈ numsT4 ∧ v = .int .i64 z
  | 10, v, _ => ∃ z, z ∈ numsT4 ∧ v = .agg #[.string sk, .int .i64 z]
  | 11, v, w => ∃ z g, z ∈ numsT4 ∧ v = .slice (some ⟨g, 0, none⟩) 1 1 ∧ N ≤ g ∧ g < w.heap.size ∧ w.cell? ⟨g, 0, none⟩ = some (.string sk) ∧ w.cell? ⟨g, 1, none⟩ = some (.int .i64 z)
  | 13, v, _ => v = .pointer (some ⟨F, 2, none⟩)
  | _, _, _ => True
theorem FunC.stay {B F N : Nat} {sa : Option Addr} {n sc k : Nat} {sk : ByteArray} {w w' : World} (hs : StayD (fun b => b ≠ B) w w') (hB : B < N) : ∀ (j : Nat) (v : Value), FunC B F N sa n sc k sk j v w → FunC B F N sa n sc k sk j v w' := by
  have hc : ∀ g i, N ≤ g → g < w.heap.size → w'.cell? ⟨g, i, none⟩ = w.cell? ⟨g, i, none⟩ := fun g i h1 h2 => World.cell?_of_block (w := w) (a := ⟨g, i, none⟩) (hs.2 g h2 (by omega))
  have hz := hs.1
  intro j v h
  match j, h with
  | 0, h => exact h
  | 1, h => exact h
  | 2, h => obtain ⟨g, h1, h2, h3, h4⟩ := h; exact ⟨g, h1, h2, by omega, (hc g k h2 h3).trans h4⟩
  | 3, h => exact h
  | 4, h => exact h
  | 5, h => obtain ⟨g, h1, h2, h3, h4⟩ := h; exact ⟨g, h1, h2, by omega, (hc g k h2 h3).trans h4⟩
  | 6, h => exact h
  | 7, h => exact h
  | 8, h => obtain ⟨g, h1, h2, h3, h4⟩ := h; exact ⟨g, h1, h2, by omega, fun j hj => (hc g j h2 h3).trans (h4 j hj)⟩
  | 9, h => exact h
  | 10, h => exact h
  | 11, h => obtain ⟨z, g, h0, h1, h2, h3, h4, h5⟩ := h; exact ⟨z, g, h0, h1, h2, by omega, (hc g 0 h2 h3).trans h4, (hc g 1 h2 h3).trans h5⟩
  | 12, _ => trivial
  | 13, h => exact h
  | j + 14, _ => trivial

set_option maxRecDepth 100000 in
set_option maxHeartbeats 8000000 in
theorem l22Fun_any (B : Nat) (a : Option Addr) (len cap : Nat) (nm : ByteArray) (w : World) (p : Nat) (h : IsRd w B a len cap p) (hB : B < w.heap.size) (hp : p ≤ 900000000000) :
    Calls Tryz.prog 52 #[.pointer (some ⟨B, 0, none⟩), .string nm] w fun r w' => ∃ (aa : Option Addr) (ca : Nat) (pb : Bool) (args : List TA) (ty : Int) (q : Nat), r = .returned (.agg #[.string nm, .bool pb, .slice aa args.length ca, .int .i64 ty, .int .i64 0, .int .i64 0, .string ⟨#[]⟩, .string ⟨#[]⟩, .slice none 0 0]) ∧
      KpD (fun b => w.heap.size ≤ b) w' (fun W => IsArgs (IsArg W 0 W.heap.size) W 0 W.heap.size aa args) ∧ args.length ≤ 2 ∧ (∀ x ∈ args, x.name.size ≤ 8 ∧ 1 ≤ x.type ∧ x.type ≤ 3) ∧ 1 ≤ ty ∧ ty ≤ 3 ∧ RdM B a len cap 10 w w' p q := by
  have HBW := hide hB
  obtain ⟨W1, hW1⟩ : ∃ W1, W1 = w.alloc (.cells #[.string ⟨#[]⟩, .bool false, .slice none 0 0, .int .i64 0, .int .i64 0, .int .i64 0, .string ⟨#[]⟩, .string ⟨#[]⟩, .slice none 0 0] 33) := ⟨_, rfl⟩
  have hrd0 : RdM B a len cap 0 w W1 p p := by rw [hW1]; exact (RdM.refl h).alloc hB _
  have hblk : Blk W1 w.heap.size [.string ⟨#[]⟩, .bool false, .slice none 0 0, .int .i64 0, .int .i64 0, .int .i64 0, .string ⟨#[]⟩, .string ⟨#[]⟩, .slice none 0 0] := by rw [hW1]; exact Blk.new w [.string ⟨#[]⟩, .bool false, .slice none 0 0, .int .i64 0, .int .i64 0, .int .i64 0, .string ⟨#[]⟩, .string ⟨#[]⟩, .slice none 0 0] 33
  have hs1 : W1.heap.size = w.heap.size + 1 := by rw [hW1]; simp
  have hMW : w.heap.size < W1.heap.size := by omega
  have HS1 := hide hs1
  have HR0 := hide hrd0
  have HBK := hide hblk
  have HB1 := hide (show B < W1.heap.size by omega)
  have HPK := hide (pick_rd B a len cap p 3 W1 hrd0.rd (by omega) (by omega))
  clear h hrd0 hblk hs1 hB
  go_enter Tryz.func52, Tryz.ntmps52
  go_wp2_with fail
  rw [← hW1]
  clear hW1
  refine (unhide HPK).mono ?_
  rintro r w2 ⟨i, rfl, i0, i1, hk2, -⟩
  have HK2 := hide hk2
  have HN := hide (num_rd B w2.heap.size 5 numsT5 a len cap (p + 1) (w2.alloc (.cells #[.int .i64 1, .int .i64 1, .int .i64 1, .int .i64 2, .int .i64 3] 3)) (hk2.rd.kept ((below_one w2 _).mono (Nat.lt_of_lt_of_le (unhide HB1) hk2.size))) (by omega) (by have := unhide HB1; have := hk2.size; omega) (by decide) (by decide) (nums_new w2 numsT5 _ rfl))
  clear i1 hk2
  go_wp2_with fail
  refine (unhide HN).mono ?_
  rintro r w3 ⟨ty, hty, rfl, hk3, -⟩
  have HTY := hide (numsT_in ty (.inl hty))
  have HK3 := hide (((unhide HK2).alloc (unhide HB1) (.cells #[.int .i64 1, .int .i64 1, .int .i64 1, .int .i64 2, .int .i64 3] 3)).trans hk3)
  clear hty hk3 HN HPK
  have HPK := hide (pick_rd B a len cap (p + 1 + 1) 3 (w3.alloc (.cells #[.string nm, .bool (decide (0 < i)), .slice none 0 0, .int .i64 ty, .int .i64 0, .int .i64 0, .string ⟨#[]⟩, .string ⟨#[]⟩, .slice none 0 0] 33)) ((unhide HK3).rd.kept ((below_one w3 _).mono (Nat.lt_of_lt_of_le (unhide HB1) (unhide HK3).size))) (by omega) (by omega))
  have HBF := hide (Blk.new w3 [.string nm, .bool (decide (0 < i)), .slice none 0 0, .int .i64 ty, .int .i64 0, .int .i64 0, .string ⟨#[]⟩, .string ⟨#[]⟩, .slice none 0 0] 33)
  have HK3a := hide ((unhide HK3).alloc (unhide HB1) (.cells #[.string nm, .bool (decide (0 < i)), .slice none 0 0, .int .i64 ty, .int .i64 0, .int .i64 0, .string ⟨#[]⟩, .string ⟨#[]⟩, .slice none 0 0] 33))
  obtain ⟨F, hF0⟩ : ∃ F, w3.heap.size = F := ⟨_, rfl⟩
  have hWF : W1.heap.size ≤ F := by rw [← hF0]; exact (unhide HK3).size
  have HWF := hide hWF
  go_wp2_with fail
  refine (unhide HPK).mono ?_
  rintro r w4 ⟨j, rfl, j0, j1, hk4, -⟩
  have j2 := j1 (by omega)
  obtain ⟨kj, rfl⟩ := Int.eq_ofNat_of_zero_le j0
  have HK4 := hide ((unhide HK3a).trans hk4)
  rw [hF0] at HBF
  have HB4 := hide ((unhide HBF).ofb (hk4.mv.2 F (by rw [alloc_size]; omega) (by have := unhide HB1; omega)))
  have HS4 : Hid (F + 1 ≤ w4.heap.size) := hide (by have := hk4.size; rw [alloc_size] at this; omega)
  have HO4 := hide (OwnD.nil EltA 2 75 (fun b => F + 1 ≤ b) (F + 1) w4)
  clear hk4 j1 HPK HBF HK3a hF0 HK3 HK2
  go_wp2
  go_loopw [6] (fun v wq => ∃ (k q : Nat) (ps : List (TA × List Value)) (sa : Option Addr) (sc : Nat), v = .int .i64 k ∧ ps.length + k ≤ 2 ∧ Hid (RdM B a len cap (3 + ps.length) W1 wq p q) ∧ Hid (Blk wq F [.string nm, .bool (decide (0 < i)), .slice sa ps.length sc, .int .i64 ty, .int .i64 0, .int .i64 0, .string ⟨#[]⟩, .string ⟨#[]⟩, .slice none 0 0]) ∧ Hid (OwnD EltA 2 75 (fun b => F + 1 ≤ b) (F + 1) wq (.slice sa ps.length sc) ps) ∧ Hid (F + 1 ≤ wq.heap.size) ∧ Hid (∀ x ∈ ps, x.1.name.size ≤ 8 ∧ 1 ≤ x.1.type ∧ x.1.type ≤ 3)) (fun v _ => (intOf v).toNat)
  case atStart => exact ⟨kj, _, [], none, 0, rfl, by simp; omega, hide ((unhide HK4).more (by simp)), HB4, HO4, HS4, hide (fun x hx => absurd hx List.not_mem_nil)⟩
  case round =>
    clear HK4 HB4 HO4 HS4 j2 j0
    obtain ⟨k, q, ps, sa, sc, rfl, hk, HR5, HB5, HO5, HS5, HWT⟩ := hrel
    have hq : q ≤ p + 5 := by have := (unhide HR5).le; omega
    have e2 := (unhide HB5).cellAt (i := 2) rfl
    by_cases hk0 : 0 < k
    · have hkk : k = 1 ∨ k = 2 := by omega
      rcases hkk with rfl | rfl
      · have HBN : Hid (B < wr.heap.size) := hide (by have := unhide HB1; have := unhide HWF; have := unhide HS5; omega)
        have HBF : Hid (B < F) := hide (by have := unhide HB1; have := unhide HWF; omega)
        have HFR : Hid (F < wr.heap.size) := hide (by have := unhide HS5; omega)
        have HE2 := hide e2
        have HLEN := hide hk
        rw [show ((1 : Nat) : Int) = 1 from rfl]
        clear e2
        go_wp2
        refine wp_region_inv (by kernel_rfl) (fun k => decide (21 ≤ k) && decide (k ≤ 34)) (fun L us w => (L 12 = false → StayD (fun b => b ≠ B) wr w ∧ (L 9 = false → RdM B a len cap (3 + ps.length) W1 w p q) ∧ (L 9 = true → RdM B a len cap (3 + ps.length + 1) W1 w p (q + 1)) ∧ Cl (FunC B F wr.heap.size sa ps.length sc 0 ⟨#[110]⟩) (fun j => 21 + j) L us w) ∧
          (L 12 = true → ∃ (g5 c5 : Nat) (z : Int), z ∈ numsT4 ∧ us 33 = .slice (some ⟨g5, 0, none⟩) (ps.length + 1) c5 ∧ (L 13 = true → us 34 = .pointer (some ⟨F, 2, none⟩)) ∧ OwnD EltA 2 75 (fun b => F + 1 ≤ b) (F + 1) w (.slice (some ⟨g5, 0, none⟩) (ps.length + 1) c5) (ps ++ [(⟨⟨#[110]⟩, z⟩, [.string ⟨#[110]⟩, .int .i64 z])]) ∧
            (L 14 = false → Blk w F [.string nm, .bool (decide (0 < i)), .slice sa ps.length sc, .int .i64 ty, .int .i64 0, .int .i64 0, .string ⟨#[]⟩, .string ⟨#[]⟩, .slice none 0 0]) ∧ (L 14 = true → Blk w F [.string nm, .bool (decide (0 < i)), .slice (some ⟨g5, 0, none⟩) (ps.length + 1) c5, .int .i64 ty, .int .i64 0, .int .i64 0, .string ⟨#[]⟩, .string ⟨#[]⟩, .slice none 0 0]) ∧
            RdM B a len cap (3 + ps.length + 1) W1 w p (q + 1) ∧ F + 1 ≤ w.heap.size)) (by kernel_rfl) ?_ ?_ ?_
        · refine ⟨fun _ => ⟨(StayD.refl _ wr).drew, (fun _ => (unhide HR5).drew), (fun h => by simp at h), fun j hj => ?_⟩, (fun h => by simp at h)⟩
          have hj2 : 15 ≤ j := of_decide_eq_true hj
          obtain ⟨m, rfl⟩ : ∃ m, j = m + 14 := ⟨j - 14, by omega⟩
          trivial
        · refine ⟨?_, ?_, ?_, ?_, ?_, ?_, ?_, ?_, ?_, ?_, ?_, ?_, ?_, ?_, ?_, trivial⟩
          -- operation 0
          · rintro L us w ⟨hA, -⟩ hl hdep hbh hup K hK
            have h12 : L 12 = false := hbh 12 (by kernel_rfl)
            have hn9 : updL L 0 9 = L 9 := updL_other _ _ _ (by decide)
            have hn12 : updL L 0 12 = false := (updL_other _ _ _ (by decide)).trans h12
            obtain ⟨hst, hr0, hr1, hcl⟩ := hA h12
            have HST := hide hst
            have HR0 := hide hr0
            have HR1 := hide hr1
            have HCL := hide hcl
            clear hst hr0 hr1 hcl hA hdep hbh hup hl
            simp only [frmFrom, Nat.reduceAdd, Nat.reduceLeDiff, decide_true, decide_false, Bool.and_true, Bool.and_false, if_true, if_false, Bool.false_eq_true]
            go_simp
            refine hK _ _ ⟨updU us 21 (.pointer (some ⟨F, 2, none⟩)), by simp [frmFrom, updU], fun _ => ?_, (fun h => by rw [hn12] at h; cases h)⟩
            have hs2 : StayD (fun b => b ≠ B) w (w) := StayD.refl _ _
            exact ⟨(unhide HST).trans hs2, fun h => (unhide HR0 (hn9.symm.trans h)), fun h => (unhide HR1 (hn9.symm.trans h)), (unhide HCL).put (fun j v h => FunC.stay hs2 (by have := unhide HBN; omega) j v h) (rfl) (fun j hj => by omega)⟩
          -- operation 1
          · rintro L us w ⟨hA, -⟩ hl hdep hbh hup K hK
            have h12 : L 12 = false := hbh 12 (by kernel_rfl)
            have hn9 : updL L 1 9 = L 9 := updL_other _ _ _ (by decide)
            have hn12 : updL L 1 12 = false := (updL_other _ _ _ (by decide)).trans h12
            obtain ⟨hst, hr0, hr1, hcl⟩ := hA h12
            have d0 : us 21 = _ := hcl 0 (by first | exact hdep ⟨0, .data⟩ (by simp) rfl | exact hdep ⟨0, .chain⟩ (by simp) rfl | exact hdep ⟨0, .phase⟩ (by simp) rfl)
            have e2 : w.cell? ⟨F, 2, none⟩ = some (.slice sa ps.length sc) := (World.cell?_of_block (w := wr) (a := ⟨F, 2, none⟩) (hst.2 F (unhide HFR) (by have := unhide HBF; omega))).trans (unhide HE2)
            have HST := hide hst
            have HR0 := hide hr0
            have HR1 := hide hr1
            have HCL := hide hcl
            clear hst hr0 hr1 hcl hA hdep hbh hup hl
            simp only [frmFrom, Nat.reduceAdd, Nat.reduceLeDiff, decide_true, decide_false, Bool.and_true, Bool.and_false, if_true, if_false, Bool.false_eq_true]
            go_simp
            refine hK _ _ ⟨updU us 22 (.slice sa ps.length sc), by simp [frmFrom, updU, d0], fun _ => ?_, (fun h => by rw [hn12] at h; cases h)⟩
            have hs2 : StayD (fun b => b ≠ B) w (w) := StayD.refl _ _
            exact ⟨(unhide HST).trans hs2, fun h => (unhide HR0 (hn9.symm.trans h)), fun h => (unhide HR1 (hn9.symm.trans h)), (unhide HCL).put (fun j v h => FunC.stay hs2 (by have := unhide HBN; omega) j v h) (rfl) (fun j hj => by omega)⟩
          -- operation 2
          · rintro L us w ⟨hA, -⟩ hl hdep hbh hup K hK
            have h12 : L 12 = false := hbh 12 (by kernel_rfl)
            have hn9 : updL L 2 9 = L 9 := updL_other _ _ _ (by decide)
            have hn12 : updL L 2 12 = false := (updL_other _ _ _ (by decide)).trans h12
            obtain ⟨hst, hr0, hr1, hcl⟩ := hA h12
            have HST := hide hst
            have HR0 := hide hr0
            have HR1 := hide hr1
            have HCL := hide hcl
            clear hst hr0 hr1 hcl hA hdep hbh hup hl
            simp only [frmFrom, Nat.reduceAdd, Nat.reduceLeDiff, decide_true, decide_false, Bool.and_true, Bool.and_false, if_true, if_false, Bool.false_eq_true]
            go_simp
            refine hK _ _ ⟨updU us 23 (.slice (some ⟨w.heap.size, 0, none⟩) 3 3), by simp [frmFrom, updU], fun _ => ?_, (fun h => by rw [hn12] at h; cases h)⟩
            have hs2 : StayD (fun b => b ≠ B) w (w.alloc (.cells #[.string ⟨#[110]⟩, .string ⟨#[109]⟩, .string ⟨#[107]⟩] 9)) := (StayD.refl _ _).alloc _
            exact ⟨(unhide HST).trans hs2, fun h => ((unhide HR0 (hn9.symm.trans h))).alloc (unhide HB1) _, fun h => ((unhide HR1 (hn9.symm.trans h))).alloc (unhide HB1) _, (unhide HCL).put (fun j v h => FunC.stay hs2 (by have := unhide HBN; omega) j v h) (⟨_, rfl, (unhide HST).1, by simp, by rw [alloc_cell]; rfl⟩) (fun j hj => by omega)⟩
          -- operation 3
          · rintro L us w ⟨hA, -⟩ hl hdep hbh hup K hK
            have h12 : L 12 = false := hbh 12 (by kernel_rfl)
            have hn9 : updL L 3 9 = L 9 := updL_other _ _ _ (by decide)
            have hn12 : updL L 3 12 = false := (updL_other _ _ _ (by decide)).trans h12
            obtain ⟨hst, hr0, hr1, hcl⟩ := hA h12
            have HST := hide hst
            have HR0 := hide hr0
            have HR1 := hide hr1
            have HCL := hide hcl
            clear hst hr0 hr1 hcl hA hdep hbh hup hl
            simp only [frmFrom, Nat.reduceAdd, Nat.reduceLeDiff, decide_true, decide_false, Bool.and_true, Bool.and_false, if_true, if_false, Bool.false_eq_true]
            go_simp
            refine hK _ _ ⟨updU us 24 (.int .i64 ((0 + 1 : Nat) : Int)), by simp [frmFrom, updU], fun _ => ?_, (fun h => by rw [hn12] at h; cases h)⟩
            have hs2 : StayD (fun b => b ≠ B) w (w) := StayD.refl _ _
            exact ⟨(unhide HST).trans hs2, fun h => (unhide HR0 (hn9.symm.trans h)), fun h => (unhide HR1 (hn9.symm.trans h)), (unhide HCL).put (fun j v h => FunC.stay hs2 (by have := unhide HBN; omega) j v h) (rfl) (fun j hj => by omega)⟩
          -- operation 4
          · rintro L us w ⟨hA, -⟩ hl hdep hbh hup K hK
            have h12 : L 12 = false := hbh 12 (by kernel_rfl)
            have hn9 : updL L 4 9 = L 9 := updL_other _ _ _ (by decide)
            have hn12 : updL L 4 12 = false := (updL_other _ _ _ (by decide)).trans h12
            obtain ⟨hst, hr0, hr1, hcl⟩ := hA h12
            have d3 : us 24 = .int .i64 1 := hcl 3 (by first | exact hdep ⟨3, .data⟩ (by simp) rfl | exact hdep ⟨3, .chain⟩ (by simp) rfl | exact hdep ⟨3, .phase⟩ (by simp) rfl)
            have HST := hide hst
            have HR0 := hide hr0
            have HR1 := hide hr1
            have HCL := hide hcl
            clear hst hr0 hr1 hcl hA hdep hbh hup hl
            simp only [frmFrom, Nat.reduceAdd, Nat.reduceLeDiff, decide_true, decide_false, Bool.and_true, Bool.and_false, if_true, if_false, Bool.false_eq_true]
            have hwr : IntKind.i64.wrap 0 = 0 := by rw [IntKind.wrap_i64]; decide
            go_simp
            refine hK _ _ ⟨updU us 25 (.int .i64 (0 : Int)), by simp [frmFrom, updU, d3], fun _ => ?_, (fun h => by rw [hn12] at h; cases h)⟩
            have hs2 : StayD (fun b => b ≠ B) w (w) := StayD.refl _ _
            exact ⟨(unhide HST).trans hs2, fun h => (unhide HR0 (hn9.symm.trans h)), fun h => (unhide HR1 (hn9.symm.trans h)), (unhide HCL).put (fun j v h => FunC.stay hs2 (by have := unhide HBN; omega) j v h) (rfl) (fun j hj => by omega)⟩
          -- operation 5
          · rintro L us w ⟨hA, -⟩ hl hdep hbh hup K hK
            have h12 : L 12 = false := hbh 12 (by kernel_rfl)
            have hn9 : updL L 5 9 = L 9 := updL_other _ _ _ (by decide)
            have hn12 : updL L 5 12 = false := (updL_other _ _ _ (by decide)).trans h12
            obtain ⟨hst, hr0, hr1, hcl⟩ := hA h12
            obtain ⟨g, d2, hg1, hg2, hg3⟩ := hcl 2 (by first | exact hdep ⟨2, .data⟩ (by simp) rfl | exact hdep ⟨2, .chain⟩ (by simp) rfl | exact hdep ⟨2, .phase⟩ (by simp) rfl)
            have d2 : us 23 = _ := d2
            have d4 : us 25 = .int .i64 0 := hcl 4 (by first | exact hdep ⟨4, .data⟩ (by simp) rfl | exact hdep ⟨4, .chain⟩ (by simp) rfl | exact hdep ⟨4, .phase⟩ (by simp) rfl)
            have HST := hide hst
            have HR0 := hide hr0
            have HR1 := hide hr1
            have HCL := hide hcl
            clear hst hr0 hr1 hcl hA hdep hbh hup hl
            simp only [frmFrom, Nat.reduceAdd, Nat.reduceLeDiff, decide_true, decide_false, Bool.and_true, Bool.and_false, if_true, if_false, Bool.false_eq_true]
            go_simp
            refine hK _ _ ⟨updU us 26 (.pointer (some ⟨g, 0, none⟩)), by simp [frmFrom, updU, d2, d4], fun _ => ?_, (fun h => by rw [hn12] at h; cases h)⟩
            have hs2 : StayD (fun b => b ≠ B) w (w) := StayD.refl _ _
            exact ⟨(unhide HST).trans hs2, fun h => (unhide HR0 (hn9.symm.trans h)), fun h => (unhide HR1 (hn9.symm.trans h)), (unhide HCL).put (fun j v h => FunC.stay hs2 (by have := unhide HBN; omega) j v h) (⟨g, rfl, hg1, hg2, hg3⟩) (fun j hj => by omega)⟩
          -- operation 6
          · rintro L us w ⟨hA, -⟩ hl hdep hbh hup K hK
            have h12 : L 12 = false := hbh 12 (by kernel_rfl)
            have hn9 : updL L 6 9 = L 9 := updL_other _ _ _ (by decide)
            have hn12 : updL L 6 12 = false := (updL_other _ _ _ (by decide)).trans h12
            obtain ⟨hst, hr0, hr1, hcl⟩ := hA h12
            obtain ⟨g, d5, hg1, hg2, hg3⟩ := hcl 5 (by first | exact hdep ⟨5, .data⟩ (by simp) rfl | exact hdep ⟨5, .chain⟩ (by simp) rfl | exact hdep ⟨5, .phase⟩ (by simp) rfl)
            have d5 : us 26 = _ := d5
            have HST := hide hst
            have HR0 := hide hr0
            have HR1 := hide hr1
            have HCL := hide hcl
            clear hst hr0 hr1 hcl hA hdep hbh hup hl
            simp only [frmFrom, Nat.reduceAdd, Nat.reduceLeDiff, decide_true, decide_false, Bool.and_true, Bool.and_false, if_true, if_false, Bool.false_eq_true]
            go_simp
            refine hK _ _ ⟨updU us 27 (.string ⟨#[110]⟩), by simp [frmFrom, updU, d5], fun _ => ?_, (fun h => by rw [hn12] at h; cases h)⟩
            have hs2 : StayD (fun b => b ≠ B) w (w) := StayD.refl _ _
            exact ⟨(unhide HST).trans hs2, fun h => (unhide HR0 (hn9.symm.trans h)), fun h => (unhide HR1 (hn9.symm.trans h)), (unhide HCL).put (fun j v h => FunC.stay hs2 (by have := unhide HBN; omega) j v h) (rfl) (fun j hj => by omega)⟩
          -- operation 7
          · rintro L us w ⟨hA, -⟩ hl hdep hbh hup K hK
            have h12 : L 12 = false := hbh 12 (by kernel_rfl)
            have hn9 : updL L 7 9 = L 9 := updL_other _ _ _ (by decide)
            have hn12 : updL L 7 12 = false := (updL_other _ _ _ (by decide)).trans h12
            obtain ⟨hst, hr0, hr1, hcl⟩ := hA h12
            have HST := hide hst
            have HR0 := hide hr0
            have HR1 := hide hr1
            have HCL := hide hcl
            clear hst hr0 hr1 hcl hA hdep hbh hup hl
            simp only [frmFrom, Nat.reduceAdd, Nat.reduceLeDiff, decide_true, decide_false, Bool.and_true, Bool.and_false, if_true, if_false, Bool.false_eq_true]
            go_simp
            refine hK _ _ ⟨updU us 28 (.pointer (some ⟨B, 0, none⟩)), by simp [frmFrom, updU], fun _ => ?_, (fun h => by rw [hn12] at h; cases h)⟩
            have hs2 : StayD (fun b => b ≠ B) w (w) := StayD.refl _ _
            exact ⟨(unhide HST).trans hs2, fun h => (unhide HR0 (hn9.symm.trans h)), fun h => (unhide HR1 (hn9.symm.trans h)), (unhide HCL).put (fun j v h => FunC.stay hs2 (by have := unhide HBN; omega) j v h) (rfl) (fun j hj => by omega)⟩
          -- operation 8
          · rintro L us w ⟨hA, -⟩ hl hdep hbh hup K hK
            have h12 : L 12 = false := hbh 12 (by kernel_rfl)
            have hn9 : updL L 8 9 = L 9 := updL_other _ _ _ (by decide)
            have hn12 : updL L 8 12 = false := (updL_other _ _ _ (by decide)).trans h12
            obtain ⟨hst, hr0, hr1, hcl⟩ := hA h12
            have HST := hide hst
            have HR0 := hide hr0
            have HR1 := hide hr1
            have HCL := hide hcl
            clear hst hr0 hr1 hcl hA hdep hbh hup hl
            simp only [frmFrom, Nat.reduceAdd, Nat.reduceLeDiff, decide_true, decide_false, Bool.and_true, Bool.and_false, if_true, if_false, Bool.false_eq_true]
            go_simp
            refine hK _ _ ⟨updU us 29 (.slice (some ⟨w.heap.size, 0, none⟩) 4 4), by simp [frmFrom, updU], fun _ => ?_, (fun h => by rw [hn12] at h; cases h)⟩
            have hs2 : StayD (fun b => b ≠ B) w (w.alloc (.cells #[.int .i64 1, .int .i64 1, .int .i64 2, .int .i64 3] 3)) := (StayD.refl _ _).alloc _
            exact ⟨(unhide HST).trans hs2, fun h => ((unhide HR0 (hn9.symm.trans h))).alloc (unhide HB1) _, fun h => ((unhide HR1 (hn9.symm.trans h))).alloc (unhide HB1) _, (unhide HCL).put (fun j v h => FunC.stay hs2 (by have := unhide HBN; omega) j v h) (⟨_, rfl, (unhide HST).1, by simp, nums_new w numsT4 _ rfl⟩) (fun j hj => by omega)⟩
          -- operation 9
          · rintro L us w ⟨hA, -⟩ hl hdep hbh hup K hK
            have h12 : L 12 = false := hbh 12 (by kernel_rfl)
            have hn12 : updL L 9 12 = false := (updL_other _ _ _ (by decide)).trans h12
            obtain ⟨hst, hr0, hr1, hcl⟩ := hA h12
            have hl9 := hl
            have d7 : us 28 = _ := hcl 7 (by first | exact hdep ⟨7, .data⟩ (by simp) rfl | exact hdep ⟨7, .chain⟩ (by simp) rfl | exact hdep ⟨7, .phase⟩ (by simp) rfl)
            obtain ⟨g, d8, hg1, hg2, hg3⟩ := hcl 8 (by first | exact hdep ⟨8, .data⟩ (by simp) rfl | exact hdep ⟨8, .chain⟩ (by simp) rfl | exact hdep ⟨8, .phase⟩ (by simp) rfl)
            have d8 : us 29 = _ := d8
            have HNN := hide (num_rd B g 4 numsT4 a len cap q w (hr0 hl9).rd (by omega) (by have := unhide HBN; omega) (by decide) (by decide) hg3)
            have H9 := hide hl9
            clear hl9
            have HST := hide hst
            have HR0 := hide hr0
            have HR1 := hide hr1
            have HCL := hide hcl
            clear hst hr0 hr1 hcl hA hdep hbh hup hl
            simp only [frmFrom, Nat.reduceAdd, Nat.reduceLeDiff, decide_true, decide_false, Bool.and_true, Bool.and_false, if_true, if_false, Bool.false_eq_true]
            go_simp
            refine (unhide HNN).mono ?_
            rintro r w5 ⟨z, hz, rfl, hk5, -⟩
            go_simp
            refine hK _ _ ⟨updU us 30 (.int .i64 z), by simp [frmFrom, updU, d7, d8], fun _ => ?_, (fun h => by rw [hn12] at h; cases h)⟩
            have hs2 : StayD (fun b => b ≠ B) w (w5) := hk5.mv.stay (fun _ h => h)
            exact ⟨(unhide HST).trans hs2, (fun h => by rw [updL_same] at h; cases h), (fun _ => ((unhide HR0 (unhide H9)).trans hk5)), (unhide HCL).put (fun j v h => FunC.stay hs2 (by have := unhide HBN; omega) j v h) (⟨z, hz, rfl⟩) (fun j hj => by omega)⟩
          -- operation 10
          · rintro L us w ⟨hA, -⟩ hl hdep hbh hup K hK
            have h12 : L 12 = false := hbh 12 (by kernel_rfl)
            have hn9 : updL L 10 9 = L 9 := updL_other _ _ _ (by decide)
            have hn12 : updL L 10 12 = false := (updL_other _ _ _ (by decide)).trans h12
            obtain ⟨hst, hr0, hr1, hcl⟩ := hA h12
            have d6 : us 27 = _ := hcl 6 (by first | exact hdep ⟨6, .data⟩ (by simp) rfl | exact hdep ⟨6, .chain⟩ (by simp) rfl | exact hdep ⟨6, .phase⟩ (by simp) rfl)
            obtain ⟨z, hz, d9⟩ := hcl 9 (by first | exact hdep ⟨9, .data⟩ (by simp) rfl | exact hdep ⟨9, .chain⟩ (by simp) rfl | exact hdep ⟨9, .phase⟩ (by simp) rfl)
            have d9 : us 30 = _ := d9
            have HST := hide hst
            have HR0 := hide hr0
            have HR1 := hide hr1
            have HCL := hide hcl
            clear hst hr0 hr1 hcl hA hdep hbh hup hl
            simp only [frmFrom, Nat.reduceAdd, Nat.reduceLeDiff, decide_true, decide_false, Bool.and_true, Bool.and_false, if_true, if_false, Bool.false_eq_true]
            go_simp
            refine hK _ _ ⟨updU us 31 (.agg #[.string ⟨#[110]⟩, .int .i64 z]), by simp [frmFrom, updU, d6, d9], fun _ => ?_, (fun h => by rw [hn12] at h; cases h)⟩
            have hs2 : StayD (fun b => b ≠ B) w (w) := StayD.refl _ _
            exact ⟨(unhide HST).trans hs2, fun h => (unhide HR0 (hn9.symm.trans h)), fun h => (unhide HR1 (hn9.symm.trans h)), (unhide HCL).put (fun j v h => FunC.stay hs2 (by have := unhide HBN; omega) j v h) (⟨z, hz, rfl⟩) (fun j hj => by omega)⟩
          -- operation 11
          · rintro L us w ⟨hA, -⟩ hl hdep hbh hup K hK
            have h12 : L 12 = false := hbh 12 (by kernel_rfl)
            have hn9 : updL L 11 9 = L 9 := updL_other _ _ _ (by decide)
            have hn12 : updL L 11 12 = false := (updL_other _ _ _ (by decide)).trans h12
            obtain ⟨hst, hr0, hr1, hcl⟩ := hA h12
            obtain ⟨z, hz, d10⟩ := hcl 10 (by first | exact hdep ⟨10, .data⟩ (by simp) rfl | exact hdep ⟨10, .chain⟩ (by simp) rfl | exact hdep ⟨10, .phase⟩ (by simp) rfl)
            have d10 : us 31 = _ := d10
            have HST := hide hst
            have HR0 := hide hr0
            have HR1 := hide hr1
            have HCL := hide hcl
            clear hst hr0 hr1 hcl hA hdep hbh hup hl
            simp only [frmFrom, Nat.reduceAdd, Nat.reduceLeDiff, decide_true, decide_false, Bool.and_true, Bool.and_false, if_true, if_false, Bool.false_eq_true]
            go_simp
            refine hK _ _ ⟨updU us 32 (.slice (some ⟨w.heap.size, 0, none⟩) 1 1), by simp [frmFrom, updU, d10], fun _ => ?_, (fun h => by rw [hn12] at h; cases h)⟩
            have hs2 : StayD (fun b => b ≠ B) w (w.alloc (.cells #[.string ⟨#[110]⟩, .int .i64 z] 75)) := (StayD.refl _ _).alloc _
            exact ⟨(unhide HST).trans hs2, fun h => ((unhide HR0 (hn9.symm.trans h))).alloc (unhide HB1) _, fun h => ((unhide HR1 (hn9.symm.trans h))).alloc (unhide HB1) _, (unhide HCL).put (fun j v h => FunC.stay hs2 (by have := unhide HBN; omega) j v h) (⟨z, _, hz, rfl, (unhide HST).1, by simp, by rw [alloc_cell]; rfl, by rw [alloc_cell]; rfl⟩) (fun j hj => by omega)⟩
          -- operation 12
          · rintro L us w ⟨hA, -⟩ hl hdep hbh hup K hK
            have h14 : L 14 = false := hbh 14 (by kernel_rfl)
            obtain ⟨hst, hr0, hr1, hcl⟩ := hA hl
            have d1 : us 22 = _ := hcl 1 (by first | exact hdep ⟨1, .data⟩ (by simp) rfl | exact hdep ⟨1, .chain⟩ (by simp) rfl | exact hdep ⟨1, .phase⟩ (by simp) rfl)
            obtain ⟨z, g, hz, d11, hg1, hg2, hg3, hg4⟩ := hcl 11 (by first | exact hdep ⟨11, .data⟩ (by simp) rfl | exact hdep ⟨11, .chain⟩ (by simp) rfl | exact hdep ⟨11, .phase⟩ (by simp) rfl)
            have d11 : us 32 = _ := d11
            have h9 : L 9 = true := hup 9 (by decide) (by kernel_rfl)
            have hrd := hr1 h9
            have HFB := hide (by have := unhide HBF; omega : F ≠ B)
            have hbf : Blk w F [.string nm, .bool (decide (0 < i)), .slice sa ps.length sc, .int .i64 ty, .int .i64 0, .int .i64 0, .string ⟨#[]⟩, .string ⟨#[]⟩, .slice none 0 0] := (unhide HB5).ofb (hst.2 F (unhide HFR) (unhide HFB))
            have hS5 : F + 1 ≤ w.heap.size := Nat.le_trans (unhide HS5) hst.1
            have hO5 : OwnD EltA 2 75 (fun b => F + 1 ≤ b) (F + 1) w (.slice sa ps.length sc) ps := (unhide HO5).stay (hst.less (fun b _ h => by have h9 : F + 1 ≤ b := h; have := unhide HBF; omega)) (fun _ h => h)
            obtain ⟨g5, c5, w6, r6, o6, b6, k6, s6, _⟩ := argsPushG hO5 hS5 (Nat.lt_succ_self F) hbf hrd (unhide HB1) (by have := unhide HWF; omega) (by have := unhide HLEN; omega) ⟨⟨#[110]⟩, z⟩ (by unfold maxLen; show (1 : Nat) ≤ _; omega) g hg3 hg4
            have HX := hide (And.intro hz (And.intro o6 (And.intro b6 (And.intro k6 s6))))
            have HH14 := hide h14
            have H1314 := hide (fun h => hcl 13 h : L 13 = true → us 34 = .pointer (some ⟨F, 2, none⟩))
            clear hst hr0 hr1 hcl hA hdep hbh hup hrd hbf hS5 hO5 hg1 hg2 hg3 hg4 o6 b6 k6 s6 hz h9 h14 hl
            simp only [frmFrom, Nat.reduceAdd, Nat.reduceLeDiff, decide_true, decide_false, Bool.and_true, Bool.and_false, if_true, if_false, Bool.false_eq_true]
            refine step_runD (a := Act.mk _ _) rfl (.tmp 22) (.tmp 32) 29 rfl rfl (.slice sa ps.length sc) (.slice (some ⟨g, 0, none⟩) 1 1) (by simp [Act.eval, d1]) (by simp [Act.eval, d11]) (.slice (some ⟨g5, 0, none⟩) (ps.length + 1) c5) w6 r6 ?_
            refine hK _ _ ⟨updU us 33 (.slice (some ⟨g5, 0, none⟩) (ps.length + 1) c5), by simp [frmFrom, updU, Act.put], (fun h => by rw [updL_same] at h; cases h), fun _ => ?_⟩
            obtain ⟨hz, o6, b6, k6, s6⟩ := unhide HX
            exact ⟨g5, c5, z, hz, updU_same _ _ _, (fun h => unhide H1314 h), o6, (fun _ => b6), (fun h => by rw [updL_other _ _ _ (by decide), unhide HH14] at h; cases h), k6, s6⟩
          -- operation 13
          · rintro L us w ⟨hA, hB2⟩ hl hdep hbh hup K hK
            have h14 : L 14 = false := hbh 14 (by kernel_rfl)
            have HA := hide hA
            have HB2 := hide hB2
            have H14 := hide h14
            clear hA hB2 hdep hbh hup hl h14
            simp only [frmFrom, Nat.reduceAdd, Nat.reduceLeDiff, decide_true, decide_false, Bool.and_true, Bool.and_false, if_true, if_false, Bool.false_eq_true]
            go_simp
            refine hK _ _ ⟨updU us 34 (.pointer (some ⟨F, 2, none⟩)), by simp [frmFrom, updU], fun h => ?_, fun h => ?_⟩
            · obtain ⟨hst, hr0, hr1, hcl⟩ := unhide HA ((updL_other _ _ _ (by decide)).symm.trans h)
              exact ⟨hst, (fun h => hr0 ((updL_other _ _ _ (by decide)).symm.trans h)), (fun h => hr1 ((updL_other _ _ _ (by decide)).symm.trans h)), hcl.put (fun _ _ h => h) rfl (fun j hj => by omega)⟩
            · obtain ⟨g5, c5, z, hz, e33, e34, o6, b6, b7, k6, s6⟩ := unhide HB2 ((updL_other _ _ _ (by decide)).symm.trans h)
              exact ⟨g5, c5, z, hz, (updU_other _ _ _ _ (by decide)).trans e33, (fun _ => updU_same _ _ _), o6, (fun h => b6 ((updL_other _ _ _ (by decide)).symm.trans h)), (fun h => b7 ((updL_other _ _ _ (by decide)).symm.trans h)), k6, s6⟩
          -- operation 14
          · rintro L us w ⟨-, hB2⟩ hl hdep hbh hup K hK
            have h12 : L 12 = true := hup 12 (by decide) (by kernel_rfl)
            have h13 : L 13 = true := hup 13 (by decide) (by kernel_rfl)
            obtain ⟨g5, c5, z, hz, e33, e34, o6, b6, b7, k6, s6⟩ := hB2 h12
            have e34' := e34 h13
            have bb := b6 hl
            have q2 := bb.cellAt (i := 2) rfl
            have f2 := bb.2 2
            have HBB := hide bb
            have H12 := hide h12
            have HX := hide (And.intro hz (And.intro o6 (And.intro k6 s6)))
            clear hB2 hdep hbh hup hl e34 bb h12 h13 hz o6 b6 b7 k6 s6
            simp only [frmFrom, Nat.reduceAdd, Nat.reduceLeDiff, decide_true, decide_false, Bool.and_true, Bool.and_false, if_true, if_false, Bool.false_eq_true]
            go_simp
            refine hK _ _ ⟨us, by simp [frmFrom, e33, e34'], (fun h => by rw [updL_other _ _ _ (by decide), unhide H12] at h; cases h), fun _ => ?_⟩
            obtain ⟨hz, o6, k6, s6⟩ := unhide HX
            refine ⟨g5, c5, z, hz, e33, (fun _ => e34'), ?_, (fun h => by rw [updL_same] at h; cases h), (fun _ => (unhide HBB).set 2 _ (by simp)), k6.set (unhide HB1) F 2 _ (by have := unhide HWF; omega), by simpa [World.setCell] using s6⟩
            exact o6.stay ((StayD.refl _ _).set F 2 _ (fun _ h => by have h9 : F + 1 ≤ F := h; omega)) (fun _ h => h)
        · rintro L us w ⟨-, hB2⟩ hall
          obtain ⟨g5, c5, z, hz, e33, e34, o6, b6, b7, k6, s6⟩ := hB2 (hall 12 (by decide))
          have HX := hide (And.intro hz (And.intro o6 (And.intro (b7 (hall 14 (by decide))) (And.intro k6 s6))))
          clear hB2 hall hz e33 e34 o6 b6 b7 k6 s6
          simp only [frmFrom, Nat.reduceAdd, Nat.reduceLeDiff, decide_true, decide_false, Bool.and_true, Bool.and_false, if_true, if_false, Bool.false_eq_true]
          go_wp2
          go_roundw
          case rel =>
            obtain ⟨hz, o6, b7, k6, s6⟩ := unhide HX
            refine ⟨0, q + 1, ps ++ [(⟨⟨#[110]⟩, z⟩, [.string ⟨#[110]⟩, .int .i64 z])], some ⟨g5, 0, none⟩, c5, by go_num, by rw [List.length_append, List.length_singleton]; have := unhide HLEN; omega, hide ?_, hide ?_, hide ?_, hide s6, hide ?_⟩
            · rw [List.length_append, List.length_singleton]; exact k6
            · rw [List.length_append, List.length_singleton]; exact b7
            · rw [List.length_append, List.length_singleton]; exact o6
            · intro x hx
              rcases List.mem_append.1 hx with hx | hx
              · exact unhide HWT x hx
              · rw [List.mem_singleton] at hx
                subst hx
                have hzz := numsT_in z (.inr hz)
                exact ⟨by show (1 : Nat) ≤ 8; omega, hzz.1, hzz.2⟩
          case measure => simp [intOf]
      · have HBN : Hid (B < wr.heap.size) := hide (by have := unhide HB1; have := unhide HWF; have := unhide HS5; omega)
        have HBF : Hid (B < F) := hide (by have := unhide HB1; have := unhide HWF; omega)
        have HFR : Hid (F < wr.heap.size) := hide (by have := unhide HS5; omega)
        have HE2 := hide e2
        have HLEN := hide hk
        rw [show ((2 : Nat) : Int) = 2 from rfl]
        clear e2
        go_wp2
        refine wp_region_inv (by kernel_rfl) (fun k => decide (21 ≤ k) && decide (k ≤ 34)) (fun L us w => (L 12 = false → StayD (fun b => b ≠ B) wr w ∧ (L 9 = false → RdM B a len cap (3 + ps.length) W1 w p q) ∧ (L 9 = true → RdM B a len cap (3 + ps.length + 1) W1 w p (q + 1)) ∧ Cl (FunC B F wr.heap.size sa ps.length sc 1 ⟨#[109]⟩) (fun j => 21 + j) L us w) ∧
          (L 12 = true → ∃ (g5 c5 : Nat) (z : Int), z ∈ numsT4 ∧ us 33 = .slice (some ⟨g5, 0, none⟩) (ps.length + 1) c5 ∧ (L 13 = true → us 34 = .pointer (some ⟨F, 2, none⟩)) ∧ OwnD EltA 2 75 (fun b => F + 1 ≤ b) (F + 1) w (.slice (some ⟨g5, 0, none⟩) (ps.length + 1) c5) (ps ++ [(⟨⟨#[109]⟩, z⟩, [.string ⟨#[109]⟩, .int .i64 z])]) ∧
            (L 14 = false → Blk w F [.string nm, .bool (decide (0 < i)), .slice sa ps.length sc, .int .i64 ty, .int .i64 0, .int .i64 0, .string ⟨#[]⟩, .string ⟨#[]⟩, .slice none 0 0]) ∧ (L 14 = true → Blk w F [.string nm, .bool (decide (0 < i)), .slice (some ⟨g5, 0, none⟩) (ps.length + 1) c5, .int .i64 ty, .int .i64 0, .int .i64 0, .string ⟨#[]⟩, .string ⟨#[]⟩, .slice none 0 0]) ∧
            RdM B a len cap (3 + ps.length + 1) W1 w p (q + 1) ∧ F + 1 ≤ w.heap.size)) (by kernel_rfl) ?_ ?_ ?_
        · refine ⟨fun _ => ⟨(StayD.refl _ wr).drew, (fun _ => (unhide HR5).drew), (fun h => by simp at h), fun j hj => ?_⟩, (fun h => by simp at h)⟩
          have hj2 : 15 ≤ j := of_decide_eq_true hj
          obtain ⟨m, rfl⟩ : ∃ m, j = m + 14 := ⟨j - 14, by omega⟩
          trivial
        · refine ⟨?_, ?_, ?_, ?_, ?_, ?_, ?_, ?_, ?_, ?_, ?_, ?_, ?_, ?_, ?_, trivial⟩
          -- operation 0
          · rintro L us w ⟨hA, -⟩ hl hdep hbh hup K hK
            have h12 : L 12 = false := hbh 12 (by kernel_rfl)
            have hn9 : updL L 0 9 = L 9 := updL_other _ _ _ (by decide)
            have hn12 : updL L 0 12 = false := (updL_other _ _ _ (by decide)).trans h12
            obtain ⟨hst, hr0, hr1, hcl⟩ := hA h12
            have HST := hide hst
            have HR0 := hide hr0
            have HR1 := hide hr1
            have HCL := hide hcl
            clear hst hr0 hr1 hcl hA hdep hbh hup hl
            simp only [frmFrom, Nat.reduceAdd, Nat.reduceLeDiff, decide_true, decide_false, Bool.and_true, Bool.and_false, if_true, if_false, Bool.false_eq_true]
            go_simp
            refine hK _ _ ⟨updU us 21 (.pointer (some ⟨F, 2, none⟩)), by simp [frmFrom, updU], fun _ => ?_, (fun h => by rw [hn12] at h; cases h)⟩
            have hs2 : StayD (fun b => b ≠ B) w (w) := StayD.refl _ _
            exact ⟨(unhide HST).trans hs2, fun h => (unhide HR0 (hn9.symm.trans h)), fun h => (unhide HR1 (hn9.symm.trans h)), (unhide HCL).put (fun j v h => FunC.stay hs2 (by have := unhide HBN; omega) j v h) (rfl) (fun j hj => by omega)⟩
          -- operation 1
          · rintro L us w ⟨hA, -⟩ hl hdep hbh hup K hK
            have h12 : L 12 = false := hbh 12 (by kernel_rfl)
            have hn9 : updL L 1 9 = L 9 := updL_other _ _ _ (by decide)
            have hn12 : updL L 1 12 = false := (updL_other _ _ _ (by decide)).trans h12
            obtain ⟨hst, hr0, hr1, hcl⟩ := hA h12
            have d0 : us 21 = _ := hcl 0 (by first | exact hdep ⟨0, .data⟩ (by simp) rfl | exact hdep ⟨0, .chain⟩ (by simp) rfl | exact hdep ⟨0, .phase⟩ (by simp) rfl)
            have e2 : w.cell? ⟨F, 2, none⟩ = some (.slice sa ps.length sc) := (World.cell?_of_block (w := wr) (a := ⟨F, 2, none⟩) (hst.2 F (unhide HFR) (by have := unhide HBF; omega))).trans (unhide HE2)
            have HST := hide hst
            have HR0 := hide hr0
            have HR1 := hide hr1
            have HCL := hide hcl
            clear hst hr0 hr1 hcl hA hdep hbh hup hl
            simp only [frmFrom, Nat.reduceAdd, Nat.reduceLeDiff, decide_true, decide_false, Bool.and_true, Bool.and_false, if_true, if_false, Bool.false_eq_true]
            go_simp
            refine hK _ _ ⟨updU us 22 (.slice sa ps.length sc), by simp [frmFrom, updU, d0], fun _ => ?_, (fun h => by rw [hn12] at h; cases h)⟩
            have hs2 : StayD (fun b => b ≠ B) w (w) := StayD.refl _ _
            exact ⟨(unhide HST).trans hs2, fun h => (unhide HR0 (hn9.symm.trans h)), fun h => (unhide HR1 (hn9.symm.trans h)), (unhide HCL).put (fun j v h => FunC.stay hs2 (by have := unhide HBN; omega) j v h) (rfl) (fun j hj => by omega)⟩
          -- operation 2
          · rintro L us w ⟨hA, -⟩ hl hdep hbh hup K hK
            have h12 : L 12 = false := hbh 12 (by kernel_rfl)
            have hn9 : updL L 2 9 = L 9 := updL_other _ _ _ (by decide)
            have hn12 : updL L 2 12 = false := (updL_other _ _ _ (by decide)).trans h12
            obtain ⟨hst, hr0, hr1, hcl⟩ := hA h12
            have HST := hide hst
            have HR0 := hide hr0
            have HR1 := hide hr1
            have HCL := hide hcl
            clear hst hr0 hr1 hcl hA hdep hbh hup hl
            simp only [frmFrom, Nat.reduceAdd, Nat.reduceLeDiff, decide_true, decide_false, Bool.and_true, Bool.and_false, if_true, if_false, Bool.false_eq_true]
            go_simp
            refine hK _ _ ⟨updU us 23 (.slice (some ⟨w.heap.size, 0, none⟩) 3 3), by simp [frmFrom, updU], fun _ => ?_, (fun h => by rw [hn12] at h; cases h)⟩
            have hs2 : StayD (fun b => b ≠ B) w (w.alloc (.cells #[.string ⟨#[110]⟩, .string ⟨#[109]⟩, .string ⟨#[107]⟩] 9)) := (StayD.refl _ _).alloc _
            exact ⟨(unhide HST).trans hs2, fun h => ((unhide HR0 (hn9.symm.trans h))).alloc (unhide HB1) _, fun h => ((unhide HR1 (hn9.symm.trans h))).alloc (unhide HB1) _, (unhide HCL).put (fun j v h => FunC.stay hs2 (by have := unhide HBN; omega) j v h) (⟨_, rfl, (unhide HST).1, by simp, by rw [alloc_cell]; rfl⟩) (fun j hj => by omega)⟩
          -- operation 3
          · rintro L us w ⟨hA, -⟩ hl hdep hbh hup K hK
            have h12 : L 12 = false := hbh 12 (by kernel_rfl)
            have hn9 : updL L 3 9 = L 9 := updL_other _ _ _ (by decide)
            have hn12 : updL L 3 12 = false := (updL_other _ _ _ (by decide)).trans h12
            obtain ⟨hst, hr0, hr1, hcl⟩ := hA h12
            have HST := hide hst
            have HR0 := hide hr0
            have HR1 := hide hr1
            have HCL := hide hcl
            clear hst hr0 hr1 hcl hA hdep hbh hup hl
            simp only [frmFrom, Nat.reduceAdd, Nat.reduceLeDiff, decide_true, decide_false, Bool.and_true, Bool.and_false, if_true, if_false, Bool.false_eq_true]
            go_simp
            refine hK _ _ ⟨updU us 24 (.int .i64 ((1 + 1 : Nat) : Int)), by simp [frmFrom, updU], fun _ => ?_, (fun h => by rw [hn12] at h; cases h)⟩
            have hs2 : StayD (fun b => b ≠ B) w (w) := StayD.refl _ _
            exact ⟨(unhide HST).trans hs2, fun h => (unhide HR0 (hn9.symm.trans h)), fun h => (unhide HR1 (hn9.symm.trans h)), (unhide HCL).put (fun j v h => FunC.stay hs2 (by have := unhide HBN; omega) j v h) (rfl) (fun j hj => by omega)⟩
          -- operation 4
          · rintro L us w ⟨hA, -⟩ hl hdep hbh hup K hK
            have h12 : L 12 = false := hbh 12 (by kernel_rfl)
            have hn9 : updL L 4 9 = L 9 := updL_other _ _ _ (by decide)
            have hn12 : updL L 4 12 = false := (updL_other _ _ _ (by decide)).trans h12
            obtain ⟨hst, hr0, hr1, hcl⟩ := hA h12
            have d3 : us 24 = .int .i64 2 := hcl 3 (by first | exact hdep ⟨3, .data⟩ (by simp) rfl | exact hdep ⟨3, .chain⟩ (by simp) rfl | exact hdep ⟨3, .phase⟩ (by simp) rfl)
            have HST := hide hst
            have HR0 := hide hr0
            have HR1 := hide hr1
            have HCL := hide hcl
            clear hst hr0 hr1 hcl hA hdep hbh hup hl
            simp only [frmFrom, Nat.reduceAdd, Nat.reduceLeDiff, decide_true, decide_false, Bool.and_true, Bool.and_false, if_true, if_false, Bool.false_eq_true]
            have hwr : IntKind.i64.wrap 1 = 1 := by rw [IntKind.wrap_i64]; decide
            go_simp
            refine hK _ _ ⟨updU us 25 (.int .i64 (1 : Int)), by simp [frmFrom, updU, d3], fun _ => ?_, (fun h => by rw [hn12] at h; cases h)⟩
            have hs2 : StayD (fun b => b ≠ B) w (w) := StayD.refl _ _
            exact ⟨(unhide HST).trans hs2, fun h => (unhide HR0 (hn9.symm.trans h)), fun h => (unhide HR1 (hn9.symm.trans h)), (unhide HCL).put (fun j v h => FunC.stay hs2 (by have := unhide HBN; omega) j v h) (rfl) (fun j hj => by omega)⟩
          -- operation 5
          · rintro L us w ⟨hA, -⟩ hl hdep hbh hup K hK
            have h12 : L 12 = false := hbh 12 (by kernel_rfl)
            have hn9 : updL L 5 9 = L 9 := updL_other _ _ _ (by decide)
            have hn12 : updL L 5 12 = false := (updL_other _ _ _ (by decide)).trans h12
            obtain ⟨hst, hr0, hr1, hcl⟩ := hA h12
            obtain ⟨g, d2, hg1, hg2, hg3⟩ := hcl 2 (by first | exact hdep ⟨2, .data⟩ (by simp) rfl | exact hdep ⟨2, .chain⟩ (by simp) rfl | exact hdep ⟨2, .phase⟩ (by simp) rfl)
            have d2 : us 23 = _ := d2
            have d4 : us 25 = .int .i64 1 := hcl 4 (by first | exact hdep ⟨4, .data⟩ (by simp) rfl | exact hdep ⟨4, .chain⟩ (by simp) rfl | exact hdep ⟨4, .phase⟩ (by simp) rfl)
            have HST := hide hst
            have HR0 := hide hr0
            have HR1 := hide hr1
            have HCL := hide hcl
            clear hst hr0 hr1 hcl hA hdep hbh hup hl
            simp only [frmFrom, Nat.reduceAdd, Nat.reduceLeDiff, decide_true, decide_false, Bool.and_true, Bool.and_false, if_true, if_false, Bool.false_eq_true]
            go_simp
            refine hK _ _ ⟨updU us 26 (.pointer (some ⟨g, 1, none⟩)), by simp [frmFrom, updU, d2, d4], fun _ => ?_, (fun h => by rw [hn12] at h; cases h)⟩
            have hs2 : StayD (fun b => b ≠ B) w (w) := StayD.refl _ _
            exact ⟨(unhide HST).trans hs2, fun h => (unhide HR0 (hn9.symm.trans h)), fun h => (unhide HR1 (hn9.symm.trans h)), (unhide HCL).put (fun j v h => FunC.stay hs2 (by have := unhide HBN; omega) j v h) (⟨g, rfl, hg1, hg2, hg3⟩) (fun j hj => by omega)⟩
          -- operation 6
          · rintro L us w ⟨hA, -⟩ hl hdep hbh hup K hK
            have h12 : L 12 = false := hbh 12 (by kernel_rfl)
            have hn9 : updL L 6 9 = L 9 := updL_other _ _ _ (by decide)
            have hn12 : updL L 6 12 = false := (updL_other _ _ _ (by decide)).trans h12
            obtain ⟨hst, hr0, hr1, hcl⟩ := hA h12
            obtain ⟨g, d5, hg1, hg2, hg3⟩ := hcl 5 (by first | exact hdep ⟨5, .data⟩ (by simp) rfl | exact hdep ⟨5, .chain⟩ (by simp) rfl | exact hdep ⟨5, .phase⟩ (by simp) rfl)
            have d5 : us 26 = _ := d5
            have HST := hide hst
            have HR0 := hide hr0
            have HR1 := hide hr1
            have HCL := hide hcl
            clear hst hr0 hr1 hcl hA hdep hbh hup hl
            simp only [frmFrom, Nat.reduceAdd, Nat.reduceLeDiff, decide_true, decide_false, Bool.and_true, Bool.and_false, if_true, if_false, Bool.false_eq_true]
            go_simp
            refine hK _ _ ⟨updU us 27 (.string ⟨#[109]⟩), by simp [frmFrom, updU, d5], fun _ => ?_, (fun h => by rw [hn12] at h; cases h)⟩
            have hs2 : StayD (fun b => b ≠ B) w (w) := StayD.refl _ _
            exact ⟨(unhide HST).trans hs2, fun h => (unhide HR0 (hn9.symm.trans h)), fun h => (unhide HR1 (hn9.symm.trans h)), (unhide HCL).put (fun j v h => FunC.stay hs2 (by have := unhide HBN; omega) j v h) (rfl) (fun j hj => by omega)⟩
          -- operation 7
          · rintro L us w ⟨hA, -⟩ hl hdep hbh hup K hK
            have h12 : L 12 = false := hbh 12 (by kernel_rfl)
            have hn9 : updL L 7 9 = L 9 := updL_other _ _ _ (by decide)
            have hn12 : updL L 7 12 = false := (updL_other _ _ _ (by decide)).trans h12
            obtain ⟨hst, hr0, hr1, hcl⟩ := hA h12
            have HST := hide hst
            have HR0 := hide hr0
            have HR1 := hide hr1
            have HCL := hide hcl
            clear hst hr0 hr1 hcl hA hdep hbh hup hl
            simp only [frmFrom, Nat.reduceAdd, Nat.reduceLeDiff, decide_true, decide_false, Bool.and_true, Bool.and_false, if_true, if_false, Bool.false_eq_true]
            go_simp
            refine hK _ _ ⟨updU us 28 (.pointer (some ⟨B, 0, none⟩)), by simp [frmFrom, updU], fun _ => ?_, (fun h => by rw [hn12] at h; cases h)⟩
            have hs2 : StayD (fun b => b ≠ B) w (w) := StayD.refl _ _
            exact ⟨(unhide HST).trans hs2, fun h => (unhide HR0 (hn9.symm.trans h)), fun h => (unhide HR1 (hn9.symm.trans h)), (unhide HCL).put (fun j v h => FunC.stay hs2 (by have := unhide HBN; omega) j v h) (rfl) (fun j hj => by omega)⟩
          -- operation 8
          · rintro L us w ⟨hA, -⟩ hl hdep hbh hup K hK
            have h12 : L 12 = false := hbh 12 (by kernel_rfl)
            have hn9 : updL L 8 9 = L 9 := updL_other _ _ _ (by decide)
            have hn12 : updL L 8 12 = false := (updL_other _ _ _ (by decide)).trans h12
            obtain ⟨hst, hr0, hr1, hcl⟩ := hA h12
            have HST := hide hst
            have HR0 := hide hr0
            have HR1 := hide hr1
            have HCL := hide hcl
            clear hst hr0 hr1 hcl hA hdep hbh hup hl
            simp only [frmFrom, Nat.reduceAdd, Nat.reduceLeDiff, decide_true, decide_false, Bool.and_true, Bool.and_false, if_true, if_false, Bool.false_eq_true]
            go_simp
            refine hK _ _ ⟨updU us 29 (.slice (some ⟨w.heap.size, 0, none⟩) 4 4), by simp [frmFrom, updU], fun _ => ?_, (fun h => by rw [hn12] at h; cases h)⟩
            have hs2 : StayD (fun b => b ≠ B) w (w.alloc (.cells #[.int .i64 1, .int .i64 1, .int .i64 2, .int .i64 3] 3)) := (StayD.refl _ _).alloc _
            exact ⟨(unhide HST).trans hs2, fun h => ((unhide HR0 (hn9.symm.trans h))).alloc (unhide HB1) _, fun h => ((unhide HR1 (hn9.symm.trans h))).alloc (unhide HB1) _, (unhide HCL).put (fun j v h => FunC.stay hs2 (by have := unhide HBN; omega) j v h) (⟨_, rfl, (unhide HST).1, by simp, nums_new w numsT4 _ rfl⟩) (fun j hj => by omega)⟩
          -- operation 9
          · rintro L us w ⟨hA, -⟩ hl hdep hbh hup K hK
            have h12 : L 12 = false := hbh 12 (by kernel_rfl)
            have hn12 : updL L 9 12 = false := (updL_other _ _ _ (by decide)).trans h12
            obtain ⟨hst, hr0, hr1, hcl⟩ := hA h12
            have hl9 := hl
            have d7 : us 28 = _ := hcl 7 (by first | exact hdep ⟨7, .data⟩ (by simp) rfl | exact hdep ⟨7, .chain⟩ (by simp) rfl | exact hdep ⟨7, .phase⟩ (by simp) rfl)
            obtain ⟨g, d8, hg1, hg2, hg3⟩ := hcl 8 (by first | exact hdep ⟨8, .data⟩ (by simp) rfl | exact hdep ⟨8, .chain⟩ (by simp) rfl | exact hdep ⟨8, .phase⟩ (by simp) rfl)
            have d8 : us 29 = _ := d8
            have HNN := hide (num_rd B g 4 numsT4 a len cap q w (hr0 hl9).rd (by omega) (by have := unhide HBN; omega) (by decide) (by decide) hg3)
            have H9 := hide hl9
            clear hl9
            have HST := hide hst
            have HR0 := hide hr0
            have HR1 := hide hr1
            have HCL := hide hcl
            clear hst hr0 hr1 hcl hA hdep hbh hup hl
            simp only [frmFrom, Nat.reduceAdd, Nat.reduceLeDiff, decide_true, decide_false, Bool.and_true, Bool.and_false, if_true, if_false, Bool.false_eq_true]
            go_simp
            refine (unhide HNN).mono ?_
            rintro r w5 ⟨z, hz, rfl, hk5, -⟩
            go_simp
            refine hK _ _ ⟨updU us 30 (.int .i64 z), by simp [frmFrom, updU, d7, d8], fun _ => ?_, (fun h => by rw [hn12] at h; cases h)⟩
            have hs2 : StayD (fun b => b ≠ B) w (w5) := hk5.mv.stay (fun _ h => h)
            exact ⟨(unhide HST).trans hs2, (fun h => by rw [updL_same] at h; cases h), (fun _ => ((unhide HR0 (unhide H9)).trans hk5)), (unhide HCL).put (fun j v h => FunC.stay hs2 (by have := unhide HBN; omega) j v h) (⟨z, hz, rfl⟩) (fun j hj => by omega)⟩
          -- operation 10
          · rintro L us w ⟨hA, -⟩ hl hdep hbh hup K hK
            have h12 : L 12 = false := hbh 12 (by kernel_rfl)
            have hn9 : updL L 10 9 = L 9 := updL_other _ _ _ (by decide)
            have hn12 : updL L 10 12 = false := (updL_other _ _ _ (by decide)).trans h12
            obtain ⟨hst, hr0, hr1, hcl⟩ := hA h12
            have d6 : us 27 = _ := hcl 6 (by first | exact hdep ⟨6, .data⟩ (by simp) rfl | exact hdep ⟨6, .chain⟩ (by simp) rfl | exact hdep ⟨6, .phase⟩ (by simp) rfl)
            obtain ⟨z, hz, d9⟩ := hcl 9 (by first | exact hdep ⟨9, .data⟩ (by simp) rfl | exact hdep ⟨9, .chain⟩ (by simp) rfl | exact hdep ⟨9, .phase⟩ (by simp) rfl)
            have d9 : us 30 = _ := d9
            have HST := hide hst
            have HR0 := hide hr0
            have HR1 := hide hr1
            have HCL := hide hcl
            clear hst hr0 hr1 hcl hA hdep hbh hup hl
            simp only [frmFrom, Nat.reduceAdd, Nat.reduceLeDiff, decide_true, decide_false, Bool.and_true, Bool.and_false, if_true, if_false, Bool.false_eq_true]
            go_simp
            refine hK _ _ ⟨updU us 31 (.agg #[.string ⟨#[109]⟩, .int .i64 z]), by simp [frmFrom, updU, d6, d9], fun _ => ?_, (fun h => by rw [hn12] at h; cases h)⟩
            have hs2 : StayD (fun b => b ≠ B) w (w) := StayD.refl _ _
            exact ⟨(unhide HST).trans hs2, fun h => (unhide HR0 (hn9.symm.trans h)), fun h => (unhide HR1 (hn9.symm.trans h)), (unhide HCL).put (fun j v h => FunC.stay hs2 (by have := unhide HBN; omega) j v h) (⟨z, hz, rfl⟩) (fun j hj => by omega)⟩
          -- operation 11
          · rintro L us w ⟨hA, -⟩ hl hdep hbh hup K hK
            have h12 : L 12 = false := hbh 12 (by kernel_rfl)
            have hn9 : updL L 11 9 = L 9 := updL_other _ _ _ (by decide)
            have hn12 : updL L 11 12 = false := (updL_other _ _ _ (by decide)).trans h12
            obtain ⟨hst, hr0, hr1, hcl⟩ := hA h12
            obtain ⟨z, hz, d10⟩ := hcl 10 (by first | exact hdep ⟨10, .data⟩ (by simp) rfl | exact hdep ⟨10, .chain⟩ (by simp) rfl | exact hdep ⟨10, .phase⟩ (by simp) rfl)
            have d10 : us 31 = _ := d10
            have HST := hide hst
            have HR0 := hide hr0
            have HR1 := hide hr1
            have HCL := hide hcl
            clear hst hr0 hr1 hcl hA hdep hbh hup hl
            simp only [frmFrom, Nat.reduceAdd, Nat.reduceLeDiff, decide_true, decide_false, Bool.and_true, Bool.and_false, if_true, if_false, Bool.false_eq_true]
            go_simp
            refine hK _ _ ⟨updU us 32 (.slice (some ⟨w.heap.size, 0, none⟩) 1 1), by simp [frmFrom, updU, d10], fun _ => ?_, (fun h => by rw [hn12] at h; cases h)⟩
            have hs2 : StayD (fun b => b ≠ B) w (w.alloc (.cells #[.string ⟨#[109]⟩, .int .i64 z] 75)) := (StayD.refl _ _).alloc _
            exact ⟨(unhide HST).trans hs2, fun h => ((unhide HR0 (hn9.symm.trans h))).alloc (unhide HB1) _, fun h => ((unhide HR1 (hn9.symm.trans h))).alloc (unhide HB1) _, (unhide HCL).put (fun j v h => FunC.stay hs2 (by have := unhide HBN; omega) j v h) (⟨z, _, hz, rfl, (unhide HST).1, by simp, by rw [alloc_cell]; rfl, by rw [alloc_cell]; rfl⟩) (fun j hj => by omega)⟩
          -- operation 12
          · rintro L us w ⟨hA, -⟩ hl hdep hbh hup K hK
            have h14 : L 14 = false := hbh 14 (by kernel_rfl)
            obtain ⟨hst, hr0, hr1, hcl⟩ := hA hl
            have d1 : us 22 = _ := hcl 1 (by first | exact hdep ⟨1, .data⟩ (by simp) rfl | exact hdep ⟨1, .chain⟩ (by simp) rfl | exact hdep ⟨1, .phase⟩ (by simp) rfl)
            obtain ⟨z, g, hz, d11, hg1, hg2, hg3, hg4⟩ := hcl 11 (by first | exact hdep ⟨11, .data⟩ (by simp) rfl | exact hdep ⟨11, .chain⟩ (by simp) rfl | exact hdep ⟨11, .phase⟩ (by simp) rfl)
            have d11 : us 32 = _ := d11
            have h9 : L 9 = true := hup 9 (by decide) (by kernel_rfl)
            have hrd := hr1 h9
            have HFB := hide (by have := unhide HBF; omega : F ≠ B)
            have hbf : Blk w F [.string nm, .bool (decide (0 < i)), .slice sa ps.length sc, .int .i64 ty, .int .i64 0, .int .i64 0, .string ⟨#[]⟩, .string ⟨#[]⟩, .slice none 0 0] := (unhide HB5).ofb (hst.2 F (unhide HFR) (unhide HFB))
            have hS5 : F + 1 ≤ w.heap.size := Nat.le_trans (unhide HS5) hst.1
            have hO5 : OwnD EltA 2 75 (fun b => F + 1 ≤ b) (F + 1) w (.slice sa ps.length sc) ps := (unhide HO5).stay (hst.less (fun b _ h => by have h9 : F + 1 ≤ b := h; have := unhide HBF; omega)) (fun _ h => h)
            obtain ⟨g5, c5, w6, r6, o6, b6, k6, s6, _⟩ := argsPushG hO5 hS5 (Nat.lt_succ_self F) hbf hrd (unhide HB1) (by have := unhide HWF; omega) (by have := unhide HLEN; omega) ⟨⟨#[109]⟩, z⟩ (by unfold maxLen; show (1 : Nat) ≤ _; omega) g hg3 hg4
            have HX := hide (And.intro hz (And.intro o6 (And.intro b6 (And.intro k6 s6))))
            have HH14 := hide h14
            have H1314 := hide (fun h => hcl 13 h : L 13 = true → us 34 = .pointer (some ⟨F, 2, none⟩))
            clear hst hr0 hr1 hcl hA hdep hbh hup hrd hbf hS5 hO5 hg1 hg2 hg3 hg4 o6 b6 k6 s6 hz h9 h14 hl
            simp only [frmFrom, Nat.reduceAdd, Nat.reduceLeDiff, decide_true, decide_false, Bool.and_true, Bool.and_false, if_true, if_false, Bool.false_eq_true]
            refine step_runD (a := Act.mk _ _) rfl (.tmp 22) (.tmp 32) 29 rfl rfl (.slice sa ps.length sc) (.slice (some ⟨g, 0, none⟩) 1 1) (by simp [Act.eval, d1]) (by simp [Act.eval, d11]) (.slice (some ⟨g5, 0, none⟩) (ps.length + 1) c5) w6 r6 ?_
            refine hK _ _ ⟨updU us 33 (.slice (some ⟨g5, 0, none⟩) (ps.length + 1) c5), by simp [frmFrom, updU, Act.put], (fun h => by rw [updL_same] at h; cases h), fun _ => ?_⟩
            obtain ⟨hz, o6, b6, k6, s6⟩ := unhide HX
            exact ⟨g5, c5, z, hz, updU_same _ _ _, (fun h => unhide H1314 h), o6, (fun _ => b6), (fun h => by rw [updL_other _ _ _ (by decide), unhide HH14] at h; cases h), k6, s6⟩
          -- operation 13
          · rintro L us w ⟨hA, hB2⟩ hl hdep hbh hup K hK
            have h14 : L 14 = false := hbh 14 (by kernel_rfl)
            have HA := hide hA
            have HB2 := hide hB2
            have H14 := hide h14
            clear hA hB2 hdep hbh hup hl h14
            simp only [frmFrom, Nat.reduceAdd, Nat.reduceLeDiff, decide_true, decide_false, Bool.and_true, Bool.and_false, if_true, if_false, Bool.false_eq_true]
            go_simp
            refine hK _ _ ⟨updU us 34 (.pointer (some ⟨F, 2, none⟩)), by simp [frmFrom, updU], fun h => ?_, fun h => ?_⟩
            · obtain ⟨hst, hr0, hr1, hcl⟩ := unhide HA ((updL_other _ _ _ (by decide)).symm.trans h)
              exact ⟨hst, (fun h => hr0 ((updL_other _ _ _ (by decide)).symm.trans h)), (fun h => hr1 ((updL_other _ _ _ (by decide)).symm.trans h)), hcl.put (fun _ _ h => h) rfl (fun j hj => by omega)⟩
            · obtain ⟨g5, c5, z, hz, e33, e34, o6, b6, b7, k6, s6⟩ := unhide HB2 ((updL_other _ _ _ (by decide)).symm.trans h)
              exact ⟨g5, c5, z, hz, (updU_other _ _ _ _ (by decide)).trans e33, (fun _ => updU_same _ _ _), o6, (fun h => b6 ((updL_other _ _ _ (by decide)).symm.trans h)), (fun h => b7 ((updL_other _ _ _ (by decide)).symm.trans h)), k6, s6⟩
          -- operation 14
          · rintro L us w ⟨-, hB2⟩ hl hdep hbh hup K hK
            have h12 : L 12 = true := hup 12 (by decide) (by kernel_rfl)
            have h13 : L 13 = true := hup 13 (by decide) (by kernel_rfl)
            obtain ⟨g5, c5, z, hz, e33, e34, o6, b6, b7, k6, s6⟩ := hB2 h12
            have e34' := e34 h13
            have bb := b6 hl
            have q2 := bb.cellAt (i := 2) rfl
            have f2 := bb.2 2
            have HBB := hide bb
            have H12 := hide h12
            have HX := hide (And.intro hz (And.intro o6 (And.intro k6 s6)))
            clear hB2 hdep hbh hup hl e34 bb h12 h13 hz o6 b6 b7 k6 s6
            simp only [frmFrom, Nat.reduceAdd, Nat.reduceLeDiff, decide_true, decide_false, Bool.and_true, Bool.and_false, if_true, if_false, Bool.false_eq_true]
            go_simp
            refine hK _ _ ⟨us, by simp [frmFrom, e33, e34'], (fun h => by rw [updL_other _ _ _ (by decide), unhide H12] at h; cases h), fun _ => ?_⟩
            obtain ⟨hz, o6, k6, s6⟩ := unhide HX
            refine ⟨g5, c5, z, hz, e33, (fun _ => e34'), ?_, (fun h => by rw [updL_same] at h; cases h), (fun _ => (unhide HBB).set 2 _ (by simp)), k6.set (unhide HB1) F 2 _ (by have := unhide HWF; omega), by simpa [World.setCell] using s6⟩
            exact o6.stay ((StayD.refl _ _).set F 2 _ (fun _ h => by have h9 : F + 1 ≤ F := h; omega)) (fun _ h => h)
        · rintro L us w ⟨-, hB2⟩ hall
          obtain ⟨g5, c5, z, hz, e33, e34, o6, b6, b7, k6, s6⟩ := hB2 (hall 12 (by decide))
          have HX := hide (And.intro hz (And.intro o6 (And.intro (b7 (hall 14 (by decide))) (And.intro k6 s6))))
          clear hB2 hall hz e33 e34 o6 b6 b7 k6 s6
          simp only [frmFrom, Nat.reduceAdd, Nat.reduceLeDiff, decide_true, decide_false, Bool.and_true, Bool.and_false, if_true, if_false, Bool.false_eq_true]
          go_wp2
          go_roundw
          case rel =>
            obtain ⟨hz, o6, b7, k6, s6⟩ := unhide HX
            refine ⟨1, q + 1, ps ++ [(⟨⟨#[109]⟩, z⟩, [.string ⟨#[109]⟩, .int .i64 z])], some ⟨g5, 0, none⟩, c5, by go_num, by rw [List.length_append, List.length_singleton]; have := unhide HLEN; omega, hide ?_, hide ?_, hide ?_, hide s6, hide ?_⟩
            · rw [List.length_append, List.length_singleton]; exact k6
            · rw [List.length_append, List.length_singleton]; exact b7
            · rw [List.length_append, List.length_singleton]; exact o6
            · intro x hx
              rcases List.mem_append.1 hx with hx | hx
              · exact unhide HWT x hx
              · rw [List.mem_singleton] at hx
                subst hx
                have hzz := numsT_in z (.inr hz)
                exact ⟨by show (1 : Nat) ≤ 8; omega, hzz.1, hzz.2⟩
          case measure => simp [intOf]
    · obtain rfl : k = 0 := by omega
      have hMF : w.heap.size < F := by have := unhide HWF; omega
      have HBM := hide ((unhide HBK).ofb ((unhide HR5).mv.2 w.heap.size hMW (by have := unhide HBW; omega)))
      have e0 := (unhide HB5).cellAt (i := 0) rfl
      have e1 := (unhide HB5).cellAt (i := 1) rfl
      have e3 := (unhide HB5).cellAt (i := 3) rfl
      have e4 := (unhide HB5).cellAt (i := 4) rfl
      have e5 := (unhide HB5).cellAt (i := 5) rfl
      have e6 := (unhide HB5).cellAt (i := 6) rfl
      have e7 := (unhide HB5).cellAt (i := 7) rfl
      have e8 := (unhide HB5).cellAt (i := 8) rfl
      have m0 := (unhide HBM).cellAt (i := 0) rfl
      have n0 := (unhide HBM).2 0
      have m1 := (unhide HBM).cellAt (i := 1) rfl
      have n1 := (unhide HBM).2 1
      have m2 := (unhide HBM).cellAt (i := 2) rfl
      have n2 := (unhide HBM).2 2
      have m3 := (unhide HBM).cellAt (i := 3) rfl
      have n3 := (unhide HBM).2 3
      have m4 := (unhide HBM).cellAt (i := 4) rfl
      have n4 := (unhide HBM).2 4
      have m5 := (unhide HBM).cellAt (i := 5) rfl
      have n5 := (unhide HBM).2 5
      have m6 := (unhide HBM).cellAt (i := 6) rfl
      have n6 := (unhide HBM).2 6
      have m7 := (unhide HBM).cellAt (i := 7) rfl
      have n7 := (unhide HBM).2 7
      have m8 := (unhide HBM).cellAt (i := 8) rfl
      have n8 := (unhide HBM).2 8
      have HFM := hide hMF
      clear hMF
      go_wp2
      have hst := ((((((((((StayD.refl (fun b => F + 1 ≤ b) wr).set w.heap.size 0 (.string nm) (fun _ h => by (try dsimp only at h); omega)).set w.heap.size 1 (.bool (decide (0 < i))) (fun _ h => by (try dsimp only at h); omega)).set w.heap.size 2 (.slice sa ps.length sc) (fun _ h => by (try dsimp only at h); omega)).set w.heap.size 3 (.int .i64 ty) (fun _ h => by (try dsimp only at h); omega)).set w.heap.size 4 (.int .i64 0) (fun _ h => by (try dsimp only at h); omega)).set w.heap.size 5 (.int .i64 0) (fun _ h => by (try dsimp only at h); omega)).set w.heap.size 6 (.string ⟨#[]⟩) (fun _ h => by (try dsimp only at h); omega)).set w.heap.size 7 (.string ⟨#[]⟩) (fun _ h => by (try dsimp only at h); omega)).set w.heap.size 8 (.slice none 0 0) (fun _ h => by (try dsimp only at h); omega))
      have hn := (((((((((((((((((((unhide HBM)).set 0 (.string nm) (by simp))).set 1 (.bool (decide (0 < i))) (by simp))).set 2 (.slice sa ps.length sc) (by simp))).set 3 (.int .i64 ty) (by simp))).set 4 (.int .i64 0) (by simp))).set 5 (.int .i64 0) (by simp))).set 6 (.string ⟨#[]⟩) (by simp))).set 7 (.string ⟨#[]⟩) (by simp))).set 8 (.slice none 0 0) (by simp))
      have hK := ((((((((((((((((((((unhide HR0).trans (unhide HR5))).set (unhide HBW) w.heap.size 0 (.string nm) (by omega))).set (unhide HBW) w.heap.size 1 (.bool (decide (0 < i))) (by omega))).set (unhide HBW) w.heap.size 2 (.slice sa ps.length sc) (by omega))).set (unhide HBW) w.heap.size 3 (.int .i64 ty) (by omega))).set (unhide HBW) w.heap.size 4 (.int .i64 0) (by omega))).set (unhide HBW) w.heap.size 5 (.int .i64 0) (by omega))).set (unhide HBW) w.heap.size 6 (.string ⟨#[]⟩) (by omega))).set (unhide HBW) w.heap.size 7 (.string ⟨#[]⟩) (by omega))).set (unhide HBW) w.heap.size 8 (.slice none 0 0) (by omega))
      obtain ⟨FW, hF⟩ : ∃ FW, FW = (((((((((wr.setCell ⟨w.heap.size, 0, none⟩ (.string nm)).setCell ⟨w.heap.size, 1, none⟩ (.bool (decide (0 < i)))).setCell ⟨w.heap.size, 2, none⟩ (.slice sa ps.length sc)).setCell ⟨w.heap.size, 3, none⟩ (.int .i64 ty)).setCell ⟨w.heap.size, 4, none⟩ (.int .i64 0)).setCell ⟨w.heap.size, 5, none⟩ (.int .i64 0)).setCell ⟨w.heap.size, 6, none⟩ (.string ⟨#[]⟩)).setCell ⟨w.heap.size, 7, none⟩ (.string ⟨#[]⟩)).setCell ⟨w.heap.size, 8, none⟩ (.slice none 0 0)) := ⟨_, rfl⟩
      rw [← hF] at hst hn hK ⊢
      have g0 := hn.cellAt (i := 0) rfl
      have g1 := hn.cellAt (i := 1) rfl
      have g2 := hn.cellAt (i := 2) rfl
      have g3 := hn.cellAt (i := 3) rfl
      have g4 := hn.cellAt (i := 4) rfl
      have g5 := hn.cellAt (i := 5) rfl
      have g6 := hn.cellAt (i := 6) rfl
      have g7 := hn.cellAt (i := 7) rfl
      have g8 := hn.cellAt (i := 8) rfl
      refine bodyPost_ret (v := .agg #[.string nm, .bool (decide (0 < i)), .slice sa ps.length sc, .int .i64 ty, .int .i64 0, .int .i64 0, .string ⟨#[]⟩, .string ⟨#[]⟩, .slice none 0 0]) (by simp [results, Tryz.results52, go_sem, g0, g1, g2, g3, g4, g5, g6, g7, g8]) rfl ?_
      refine ⟨sa, sc, decide (0 < i), ps.map Prod.fst, ty, q, by rw [List.length_map], ?_, by rw [List.length_map]; omega, ?_, (unhide HTY).1, (unhide HTY).2, hK.more (by omega)⟩
      · exact ((((unhide HO5).stay hst (fun _ h => h)).reads (fun _ h => h)).imp (fun W hW => hW.args)).less (fun b _ h => by have h9 : F + 1 ≤ b := h; show w.heap.size ≤ b; have := unhide HFM; omega)
      · intro x hx
        obtain ⟨p0, hp0, rfl⟩ := List.mem_map.1 hx
        exact unhide HWT p0 hp0
end Go.Proofs.YtffabnmgcicpiaaGreat
