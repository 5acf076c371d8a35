/- The walks of the reader of drawn bytes: l23Open, pick, of. Conditions: the slice that was handed in can be read. The walks of l23Open and of, and what a reader keeps behind them. Conditions: the slice that was handed in can be read. Data that stand in every world that agrees on some blocks, and rows of them that append makes. No conditions. The reader of drawn bytes: num, and what is kept behind a draw. Conditions: the slice that was handed in can be read. Expressions that are drawn: what a row of them is, what a node of a row is, how heavy they are. No conditions. Types of expressions, plain; the walks of spec.l4Var, spec.l4List and spec.l4Apply. Conditions: the rows can be read. The walks of l22NumE and of a generator's leaf. Conditions: the generator and the variables can be read. -/
import Derived.Test.YtffabnmgcicpiaaGreatPlain
import Derived.Deep.QuietTactic
import Derived.BigQuiet
import Derived.Test.YtffabnmgcicpiaaGreatG2
import Derived.Deep.AppendLies
import Derived.Deep.AppendSrc
import Derived.Deep.RegionLaw
import Derived.Test.YtffabnmgcicpiaaGreatG1
namespace Go.Proofs.YtffabnmgcicpiaaGreat
open Go.RowKit Go.PlainAid

/-- A slice of bytes that can be read, all of it below the block n. -/
def Src (w : World) (n : Nat) (a : Option Addr) (len : Nat) : Prop :=
  len = 0 ∨ ∃ (b off : Nat) (f : Nat → Int), a = some ⟨b, off, none⟩ ∧ b < n ∧ (∀ j, 0 ≤ f j ∧ f j ≤ 255) ∧ ∀ j, j < len → w.cell? ⟨b, off + j, none⟩ = some (.int .u8 (f j))
/-- A reader in block B: its bytes and its place. -/
def IsRd (w : World) (B : Nat) (a : Option Addr) (len cap p : Nat) : Prop :=
  w.cell? ⟨B, 0, none⟩ = some (.slice a len cap) ∧ w.cell? ⟨B, 1, none⟩ = some (.int .i64 p) ∧ w.frozen? ⟨B, 1, none⟩ = false ∧ len ≤ 2000 ∧ Src w B a len

theorem xor_i64_nat (a b : Nat) (ha : a < 4611686018427387904) (hb : b < 4611686018427387904) : bits .xor .i64 (a : Int) (b : Int) = ((a ^^^ b : Nat) : Int) := by
  have hx : a ^^^ b < 2 ^ 62 := Nat.xor_lt_two_pow (by omega) (by omega)
  have h1 : (BitVec.ofInt 64 (a : Int)).toNat = a := by
    rw [BitVec.ofInt_natCast, BitVec.toNat_ofNat]; exact Nat.mod_eq_of_lt (by omega)
  have h2 : (BitVec.ofInt 64 (b : Int)).toNat = b := by
    rw [BitVec.ofInt_natCast, BitVec.toNat_ofNat]; exact Nat.mod_eq_of_lt (by omega)
  show IntKind.i64.wrap ((BitVec.ofInt 64 (a : Int) ^^^ BitVec.ofInt 64 (b : Int)).toNat : Int) = _
  rw [BitVec.toNat_xor, h1, h2, IntKind.wrap_i64]
  omega
theorem xor_i64_nonneg (a b : Int) (h1 : 0 ≤ a) (h2 : a < 4611686018427387904) (h3 : 0 ≤ b) (h4 : b < 4611686018427387904) : 0 ≤ bits .xor .i64 a b := by
  obtain ⟨A, rfl⟩ := Int.eq_ofNat_of_zero_le h1
  obtain ⟨B, rfl⟩ := Int.eq_ofNat_of_zero_le h3
  have e : bits .xor .i64 (A : Int) (B : Int) = ((A ^^^ B : Nat) : Int) := xor_i64_nat A B (by omega) (by omega)
  show 0 ≤ bits .xor .i64 (A : Int) (B : Int)
  rw [e]; omega

set_option maxHeartbeats 1000000 in
theorem pick_any (B : Nat) (a : Option Addr) (len cap p : Nat) (n : Int) (w : World) (h : IsRd w B a len cap p) (hp : p ≤ 1000000000000) (hn : n ≤ 1000000) :
    Calls Tryz.prog 24 #[.pointer (some ⟨B, 0, none⟩), .int .i64 n] w fun e w' => ∃ i : Int, e = .returned (.int .i64 i) ∧ 0 ≤ i ∧ (1 ≤ n → i < n) ∧ ∃ k, w' = (w.setCell ⟨B, 1, none⟩ (.int .i64 (p + 1))).drewN k := by
  obtain ⟨h1, h2, h3, h4, h5⟩ := h
  by_cases hn1 : n < 1
  · clear h5
    go_enter Tryz.func24, Tryz.ntmps24
    go_wp2
    go_ret
    exact ⟨0, rfl, by omega, by omega, 0, rfl⟩
  rcases h5 with h5 | ⟨b, off, f, rfl, hb, hf, hc⟩
  · subst h5
    go_enter Tryz.func24, Tryz.ntmps24
    go_wp2
    go_ret
    exact ⟨0, rfl, by omega, by omega, 0, rfl⟩
  by_cases hl : len = 0
  · subst hl
    clear hc
    go_enter Tryz.func24, Tryz.ntmps24
    go_wp2
    go_ret
    exact ⟨0, rfl, by omega, by omega, 0, rfl⟩
  have hl0 : ((len : Int) == 0) = false := by rw [beq_eq_false_iff_ne]; omega
  have hn0 : (n == 0) = false := by rw [beq_eq_false_iff_ne]; omega
  have hne : b ≠ B := by omega
  by_cases hpl : p < len
  · have hcp := hc p hpl
    obtain ⟨f0, f1⟩ := hf p
    clear hc hf
    generalize f p = z at *
    go_enter Tryz.func24, Tryz.ntmps24
    go_wp2
    go_ret
    refine ⟨_, rfl, ?_, ?_, 0, rfl⟩
    · exact Int.emod_nonneg _ (by omega)
    · exact Int.emod_lt_of_pos _ (by omega)
  have hk1 : p % len < len := Nat.mod_lt _ (by omega)
  have hi1 : 0 ≤ ((p : Int) * 7 + 3) % (len : Int) := Int.emod_nonneg _ (by omega)
  have hi2 : ((p : Int) * 7 + 3) % (len : Int) < (len : Int) := Int.emod_lt_of_pos _ (by omega)
  have hq0 : 0 ≤ (p : Int) / (len : Int) := Int.ediv_nonneg (by omega) (by omega)
  have hq1 : (p : Int) / (len : Int) ≤ 1000000000000 := by
    have := Int.ediv_le_self (a := (p : Int)) (len : Int) (by omega)
    omega
  have hc1 := hc _ hk1
  have hc2 := hc ((p * 7 + 3) % len) (Nat.mod_lt _ (by omega))
  have hf1 := hf (p % len)
  have hf2 := hf ((p * 7 + 3) % len)
  clear hc hf
  generalize f (p % len) = z1 at *
  generalize f ((p * 7 + 3) % len) = z2 at *
  obtain ⟨a1, a2⟩ := hf1
  obtain ⟨b1, b2⟩ := hf2
  go_enter Tryz.func24, Tryz.ntmps24
  go_wp2
  go_quiet (fail)
  go_wp2
  have hx := xor_i64_nonneg (z1 * 131 + z2 * 1117 + p * 29 + (p : Int) / len * 53) ((z1 * 131 + z2 * 1117 + p * 29 + (p : Int) / len * 53) / 64) (by omega) (by omega) (by omega) (by omega)
  go_ret
  refine ⟨_, rfl, ?_, ?_, _, rfl⟩
  · exact Int.tmod_nonneg _ hx
  · have hn2 : 0 < n := by omega
    exact fun _ => Int.tmod_lt_of_pos _ hn2
end Go.Proofs.YtffabnmgcicpiaaGreat

namespace Go.Proofs.YtffabnmgcicpiaaGreat
open Go.RowKit Go.PlainAid

theorem Src.less {w : World} {n : Nat} {a : Option Addr} {len m : Nat} (h : Src w n a len) (hm : m ≤ len) : Src w n a m := by
  rcases h with h | ⟨b, off, f, h1, h2, h3, h4⟩
  · exact .inl (by omega)
  · exact .inr ⟨b, off, f, h1, h2, h3, fun j hj => h4 j (by omega)⟩
theorem Src.kept {w w' : World} {n m : Nat} {a : Option Addr} {len : Nat} (h : Src w n a len) (hb : Below n w w') (hnm : n ≤ m) : Src w' m a len := by
  rcases h with h | ⟨b, off, f, h1, h2, h3, h4⟩
  · exact .inl h
  · exact .inr ⟨b, off, f, h1, by omega, h3, fun j hj => (hb.cell (p := ⟨b, off + j, none⟩) h2).trans (h4 j hj)⟩

set_option maxHeartbeats 400000 in
theorem l23Open_any (a : Option Addr) (len cap : Nat) (w : World) (hl : len ≤ cap) (hm : cap ≤ maxLen) (h : Src w w.heap.size a len) :
    Calls Tryz.prog 10 #[.slice a len cap] w fun e w' => ∃ len' cap' : Nat, e = .returned (.pointer (some ⟨w.heap.size, 0, none⟩)) ∧ IsRd w' w.heap.size a len' cap' 0 ∧ Below w.heap.size w w' ∧ w'.heap.size = w.heap.size + 1 := by
  unfold maxLen at hm
  have HS := hide h
  have HL := hide hl
  have hb0 : Below w.heap.size w w := Below.refl _ _
  by_cases hbig : 2000 < len
  · have hcap : (2000 : Int) ≤ (cap : Int) := by omega
    rcases h with h | ⟨b, off, f, rfl, h2, h3, h4⟩
    · omega
    clear h3 h4 hb0
    go_enter Tryz.func10, Tryz.ntmps10
    go_wp2
    go_ret
    refine ⟨2000, cap, rfl, ⟨?_, ?_, ?_, by omega, ?_⟩, (Below.refl _ _).alloc (Nat.le_refl _) _, by simp⟩
    · simp
    · simp
    · simp
    · exact ((unhide HS).less (by omega)).kept ((Below.refl _ _).alloc (Nat.le_refl _) _) (Nat.le_refl _)
  · clear h hb0
    go_enter Tryz.func10, Tryz.ntmps10
    go_wp2
    go_ret
    refine ⟨len, cap, rfl, ⟨?_, ?_, ?_, by omega, ?_⟩, (Below.refl _ _).alloc (Nat.le_refl _) _, by simp⟩
    · simp
    · simp
    · simp
    · exact (unhide HS).kept ((Below.refl _ _).alloc (Nat.le_refl _) _) (Nat.le_refl _)

theorem IsRd.kept {w w' : World} {B : Nat} {a : Option Addr} {len cap p : Nat} (h : IsRd w B a len cap p) (hb : Below (B + 1) w w') : IsRd w' B a len cap p := by
  obtain ⟨h1, h2, h3, h4, h5⟩ := h
  exact ⟨(hb.cell (p := ⟨B, 0, none⟩) (by simp)).trans h1, (hb.cell (p := ⟨B, 1, none⟩) (by simp)).trans h2, (hb.frozen (p := ⟨B, 1, none⟩) (by simp)).trans h3, h4, h5.kept (hb.mono (by omega)) (Nat.le_refl _)⟩
theorem IsRd.next {w : World} {B : Nat} {a : Option Addr} {len cap p : Nat} (h : IsRd w B a len cap p) (k : Nat) : IsRd ((w.setCell ⟨B, 1, none⟩ (.int .i64 ((p : Int) + 1))).drewN k) B a len cap (p + 1) := by
  obtain ⟨h1, h2, h3, h4, h5⟩ := h
  refine ⟨?_, ?_, ?_, h4, h5.kept (below_drewN ((Below.refl _ _).setCell (p := ⟨B, 1, none⟩) (Nat.le_refl _) _) _) (Nat.le_refl _)⟩
  · show (w.setCell ⟨B, 1, none⟩ (.int .i64 ((p : Int) + 1))).cell? ⟨B, 0, none⟩ = _
    exact (World.cell?_setCell_other _ ⟨B, 1, none⟩ ⟨B, 0, none⟩ _ (by simp)).trans h1
  · show (w.setCell ⟨B, 1, none⟩ (.int .i64 ((p : Int) + 1))).cell? ⟨B, 1, none⟩ = _
    exact World.cell?_setCell_same' _ _ _ (by rw [h2]; rfl)
  · show (w.setCell ⟨B, 1, none⟩ (.int .i64 ((p : Int) + 1))).frozen? ⟨B, 1, none⟩ = _
    rw [World.frozen?_setCell]; exact h3
theorem pick_below {w : World} {B : Nat} (k : Nat) (v : Value) : Below B w ((w.setCell ⟨B, 1, none⟩ v).drewN k) :=
  below_drewN ((Below.refl _ _).setCell (p := ⟨B, 1, none⟩) (Nat.le_refl _) _) _

/-- A list of texts that lies in block L. -/
def IsList (w : World) (L m : Nat) (f : Nat → ByteArray) : Prop := ∀ j, j < m → w.cell? ⟨L, j, none⟩ = some (.string (f j))

set_option maxHeartbeats 400000 in
theorem ofRd_any (B L m c : Nat) (f : Nat → ByteArray) (a : Option Addr) (len cap p : Nat) (w : World) (h : IsRd w B a len cap p) (hp : p ≤ 1000000000000) (hLB : L ≠ B) (hm1 : 1 ≤ m) (hm2 : m ≤ 1000) (hL : IsList w L m f) :
    Calls Tryz.prog 38 #[.pointer (some ⟨B, 0, none⟩), .slice (some ⟨L, 0, none⟩) m c] w fun e w' => ∃ j, j < m ∧ e = .returned (.string (f j)) ∧ ∃ k, w' = (w.setCell ⟨B, 1, none⟩ (.int .i64 (p + 1))).drewN k := by
  have HP := hide (fun n (hn : n ≤ 1000000) => pick_any B a len cap p n w h hp hn)
  clear h
  go_enter Tryz.func38, Tryz.ntmps38
  go_wp2_with fail
  refine (unhide HP _ (by omega)).mono ?_
  rintro e w1 ⟨i, rfl, i0, i1, k, rfl⟩
  have i2 := i1 (by omega)
  clear i1
  obtain ⟨j, rfl⟩ := Int.eq_ofNat_of_zero_le i0
  have hc : w.cell? ⟨L, j, none⟩ = some (.string (f j)) := hL j (by omega)
  clear hL
  go_wp2
  go_ret
  exact ⟨j, by omega, rfl, k, rfl⟩
/-- Nothing but the block B has turned. -/
def Moved (B : Nat) (w w' : World) : Prop := Below B w w' ∧ w'.heap.size = w.heap.size ∧ ∀ b, b ≠ B → w'.heap[b]? = w.heap[b]?
theorem moved_set (w : World) (B k : Nat) (v : Value) : Moved B w ((w.setCell ⟨B, 1, none⟩ v).drewN k) :=
  ⟨pick_below k v, by show (w.setCell ⟨B, 1, none⟩ v).heap.size = _; simp [World.setCell], fun b hb => Below.heap_setCell w ⟨B, 1, none⟩ v b hb⟩
theorem pick_abs (B : Nat) (a : Option Addr) (len cap p : Nat) (n : Int) (w : World) (h : IsRd w B a len cap p) (hp : p ≤ 1000000000000) (hn : n ≤ 1000000) :
    Calls Tryz.prog 24 #[.pointer (some ⟨B, 0, none⟩), .int .i64 n] w fun e w' => ∃ i : Int, e = .returned (.int .i64 i) ∧ 0 ≤ i ∧ (1 ≤ n → i < n) ∧ IsRd w' B a len cap (p + 1) ∧ Moved B w w' := by
  refine (pick_any B a len cap p n w h hp hn).mono ?_
  rintro e w' ⟨i, he, h0, h1, k, rfl⟩
  exact ⟨i, he, h0, h1, h.next k, moved_set w B k _⟩
theorem of_abs (B L m c : Nat) (f : Nat → ByteArray) (a : Option Addr) (len cap p : Nat) (w : World) (h : IsRd w B a len cap p) (hp : p ≤ 1000000000000) (hLB : L ≠ B) (hm1 : 1 ≤ m) (hm2 : m ≤ 1000) (hL : IsList w L m f) :
    Calls Tryz.prog 38 #[.pointer (some ⟨B, 0, none⟩), .slice (some ⟨L, 0, none⟩) m c] w fun e w' => ∃ j, j < m ∧ e = .returned (.string (f j)) ∧ IsRd w' B a len cap (p + 1) ∧ Moved B w w' := by
  refine (ofRd_any B L m c f a len cap p w h hp hLB hm1 hm2 hL).mono ?_
  rintro e w' ⟨j, hj, he, k, rfl⟩
  exact ⟨j, hj, he, h.next k, moved_set w B k _⟩
end Go.Proofs.YtffabnmgcicpiaaGreat

namespace Go.Proofs.YtffabnmgcicpiaaGreat
open Go.RowKit Go.PlainAid

/-- A step of a region that draws its order: appending, its run being known. -/
theorem step_runD {P : Program} {w : World} {ops : Array Oper} {o : Oper} {a : Act} {K : Act → World → Prop} {Q : Exit → Act → World → Prop} {E : Prop} (hgd : o.guard = none) (s x : Operand) (t : TypeId)
    (ho : o.op = .call { callee := .builtin .append, args := #[s, x], argTypes := #[t, t] }) (hty : o.type = t) (v y : Value) (hs : a.eval s = v) (hx : a.eval x = y) (v' : Value) (w' : World) (hr : (Builtin.append_ #[t, t] t #[v, y]).run P w = .ok v' w') (h : K (a.put o.dst v') w') :
    if Region.wanted o (yielded ops a.tmps) = true then Oper.wp P o a w K Q else E := by
  have hw : Region.wanted o (yielded ops a.tmps) = true := by simp [Region.wanted, hgd]
  rw [if_pos hw]
  unfold Oper.wp execOp
  simp only [ho, hty, resolve, invoke, builtin, Sem.run_bind, Sem.run_pure, Result.andThen_ok, List.map_toArray, List.map_cons, List.map_nil, hs, hx, hr]
  exact h
/-- The same in a region that keeps the text's order. -/
theorem wpList_runD {P : Program} {w : World} {ops : Array Oper} {rest : List Oper} {o : Oper} {a : Act} {Q : Exit → Act → World → Prop} (hgd : o.guard = none) (s x : Operand) (t : TypeId)
    (ho : o.op = .call { callee := .builtin .append, args := #[s, x], argTypes := #[t, t] }) (hty : o.type = t) (v y : Value) (hs : a.eval s = v) (hx : a.eval x = y) (v' : Value) (w' : World) (hr : (Builtin.append_ #[t, t] t #[v, y]).run P w = .ok v' w') (h : wpList P ops Q rest (a.put o.dst v') w') : wpList P ops Q (o :: rest) a w :=
  wpList_plain hgd fun _ hK => by
    unfold Oper.wp execOp
    simp only [ho, hty, resolve, invoke, builtin, Sem.run_bind, Sem.run_pure, Result.andThen_ok, List.map_toArray, List.map_cons, List.map_nil, hs, hx, hr]
    exact hK _ _ h
/-- A world that agrees with another one on some of its blocks. -/
def StayD (S : Nat → Prop) (w W : World) : Prop := w.heap.size ≤ W.heap.size ∧ ∀ b, b < w.heap.size → S b → W.heap[b]? = w.heap[b]?
/-- What holds in every world that agrees on these blocks. -/
def KpD (S : Nat → Prop) (w : World) (P : World → Prop) : Prop := ∀ W, StayD S w W → P W
theorem StayD.refl (S : Nat → Prop) (w : World) : StayD S w w := ⟨Nat.le_refl _, fun _ _ _ => rfl⟩
theorem StayD.trans {S : Nat → Prop} {a b c : World} (h : StayD S a b) (k : StayD S b c) : StayD S a c :=
  ⟨Nat.le_trans h.1 k.1, fun x hx hs => (k.2 x (Nat.lt_of_lt_of_le hx h.1) hs).trans (h.2 x hx hs)⟩
theorem StayD.less {S S' : Nat → Prop} {w W : World} (h : StayD S w W) (hS : ∀ b, b < w.heap.size → S' b → S b) : StayD S' w W := ⟨h.1, fun b hb hs => h.2 b hb (hS b hb hs)⟩
theorem StayD.below {S : Nat → Prop} {w W : World} (h : Below w.heap.size w W) : StayD S w W := ⟨h.size, fun b hb _ => h.block b hb⟩
theorem StayD.alloc {S : Nat → Prop} {a w : World} (h : StayD S a w) (o : Obj) : StayD S a (w.alloc o) := h.trans (StayD.below ((Below.refl _ _).alloc (Nat.le_refl _) _))
theorem StayD.drew {S : Nat → Prop} {a w : World} (h : StayD S a w) : StayD S a w.drew := h
theorem StayD.set {S : Nat → Prop} {a w : World} (h : StayD S a w) (R i : Nat) (v : Value) (hR : R < a.heap.size → ¬ S R) : StayD S a (w.setCell ⟨R, i, none⟩ v) :=
  ⟨by simpa [World.setCell] using h.1, fun b hb hs => (Below.heap_setCell _ _ _ _ (fun e => by have e' : b = R := e; subst e'; exact hR hb hs)).trans (h.2 b hb hs)⟩
theorem StayD.grown {S : Nat → Prop} {a w w' : World} {row : Option Nat} (h : StayD S a w) (hg : w.grownBy w' row) (hr : ∀ b, b < a.heap.size → S b → some b ≠ row) : StayD S a w' :=
  ⟨Nat.le_trans h.1 hg.size, fun b hb hs => (hg.block b (Nat.lt_of_lt_of_le hb h.1) (hr b hb hs)).trans (h.2 b hb hs)⟩
theorem KpD.now {S : Nat → Prop} {w : World} {P : World → Prop} (h : KpD S w P) : P w := h w (StayD.refl S w)
theorem KpD.stay {S : Nat → Prop} {w w' : World} {P : World → Prop} (h : KpD S w P) (hs : StayD S w w') : KpD S w' P := fun W hW => h W (hs.trans hW)
theorem KpD.less {S S' : Nat → Prop} {w : World} {P : World → Prop} (h : KpD S w P) (hS : ∀ b, b < w.heap.size → S b → S' b) : KpD S' w P := fun W hW => h W (hW.less hS)
theorem KpD.imp {S : Nat → Prop} {w : World} {P Q : World → Prop} (h : KpD S w P) (hp : ∀ W, P W → Q W) : KpD S w Q := fun W hW => hp W (h W hW)
/-- Some blocks, but a row's own. -/
def OffD (S : Nat → Prop) (g : Option Nat) (b : Nat) : Prop := S b ∧ some b ≠ g

/-- A row that append makes, of elements of k cells; each element stands as R says, without the row's own block. -/
structure OwnD {α : Type} (R : World → α → List Value → Prop) (k : Nat) (T : TypeId) (S : Nat → Prop) (lo : Nat) (w : World) (v : Value) (ps : List (α × List Value)) : Prop where
  row : w.ownsRow lo T k v ps.length (ps.map Prod.snd).flatten
  one : ∀ p ∈ ps, p.2.length = k ∧ ∀ u ∈ p.2, u.oneCell' = true
  els : ∀ p ∈ ps, KpD (OffD S v.ownBlock) w (fun W => R W p.1 p.2)
theorem flat_len {α : Type} {k : Nat} : ∀ {ps : List (α × List Value)}, (∀ p ∈ ps, p.2.length = k ∧ ∀ u ∈ p.2, u.oneCell' = true) → ((ps.map Prod.snd).flatten).length = ps.length * k
  | [], _ => by simp
  | x :: t, h => by
    have h1 := (h x (by simp)).1
    have h2 := flat_len (ps := t) (fun p hp => h p (by simp [hp]))
    simp only [List.map_cons, List.flatten_cons, List.length_append, List.length_cons, h1, h2]
    rw [Nat.add_mul]; omega
theorem flat_at {α : Type} {k : Nat} : ∀ {ps : List (α × List Value)}, (∀ p ∈ ps, p.2.length = k ∧ ∀ u ∈ p.2, u.oneCell' = true) → ∀ (j : Nat) (hj : j < ps.length) (i : Nat), i < k → ((ps.map Prod.snd).flatten)[j * k + i]? = ps[j].2[i]?
  | [], _, j, hj, _, _ => by simp at hj
  | x :: t, h, j, hj, i, hi => by
    have h1 := (h x (by simp)).1
    simp only [List.map_cons, List.flatten_cons]
    cases j with
    | zero => rw [List.getElem?_append_left (by omega)]; simp
    | succ j =>
      have h2 := flat_at (ps := t) (fun p hp => h p (by simp [hp])) j (by simpa using hj) i hi
      rw [List.getElem?_append_right (by rw [h1, Nat.add_mul]; omega), h1, show (j + 1) * k + i - k = j * k + i by rw [Nat.add_mul]; omega, h2]
      simp
theorem OwnD.nil {α : Type} (R : World → α → List Value → Prop) (k : Nat) (T : TypeId) (S : Nat → Prop) (lo : Nat) (w : World) : OwnD R k T S lo w (.slice none 0 0) [] :=
  ⟨World.ownsRow_nil _ _ _ _, fun _ h => absurd h (List.not_mem_nil), fun _ h => absurd h (List.not_mem_nil)⟩
theorem OwnD.made {α : Type} (R : World → α → List Value → Prop) (k : Nat) (T : TypeId) (S : Nat → Prop) (w : World) : OwnD R k T S w.heap.size (w.alloc (.cells #[] T)) (.slice (some ⟨w.heap.size, 0, none⟩) 0 0) [] :=
  ⟨World.ownsRow_made w #[] 0 (Nat.le_refl _) (by unfold maxLen; omega) (by simp), fun _ h => absurd h (List.not_mem_nil), fun _ h => absurd h (List.not_mem_nil)⟩
theorem OwnD.lower {α : Type} {R : World → α → List Value → Prop} {k : Nat} {T : TypeId} {S : Nat → Prop} {lo lo' : Nat} {w : World} {v : Value} {ps : List (α × List Value)} (h : OwnD R k T S lo w v ps) (hl : lo' ≤ lo) : OwnD R k T S lo' w v ps := by
  refine ⟨⟨h.row.1, ?_⟩, h.one, h.els⟩
  rcases h.row.2 with h2 | ⟨g, cap, cur, h1, h3, h4⟩
  · exact .inl h2
  · exact .inr ⟨g, cap, cur, h1, Nat.le_trans hl h3, h4⟩
theorem OwnD.form {α : Type} {R : World → α → List Value → Prop} {k : Nat} {T : TypeId} {S : Nat → Prop} {lo : Nat} {w : World} {v : Value} {ps : List (α × List Value)} (h : OwnD R k T S lo w v ps) : ∃ (a : Option Addr) (cap : Nat), v = .slice a ps.length cap ∧ ∀ g, (Value.slice a ps.length cap).ownBlock = some g → lo ≤ g ∧ g < w.heap.size := by
  have hl := h.row.lt
  rcases h.row.2 with ⟨rfl, h0⟩ | ⟨g, cap, cur, rfl, _⟩
  · exact ⟨none, 0, by rw [h0], fun g hg => by cases hg⟩
  · exact ⟨_, cap, rfl, hl⟩
theorem OwnD.stay {α : Type} {R : World → α → List Value → Prop} {k : Nat} {T : TypeId} {S : Nat → Prop} {lo : Nat} {w w' : World} {v : Value} {ps : List (α × List Value)} (h : OwnD R k T S lo w v ps) (hs : StayD S w w') (hS : ∀ b, lo ≤ b → S b) : OwnD R k T S lo w' v ps := by
  refine ⟨⟨h.row.1, ?_⟩, h.one, fun p hp => (h.els p hp).stay (hs.less (fun b _ hb => hb.1))⟩
  have hl := h.row.lt
  rcases h.row.2 with h2 | ⟨g, cap, cur, rfl, h3, h4, h5⟩
  · exact .inl h2
  · exact .inr ⟨g, cap, cur, rfl, h3, (hs.2 g (hl g rfl).2 (hS g h3)).trans h4, h5⟩
theorem OwnD.cell {α : Type} {R : World → α → List Value → Prop} {k : Nat} {T : TypeId} {S : Nat → Prop} {lo g n cap : Nat} {w : World} {ps : List (α × List Value)} (h : OwnD R k T S lo w (.slice (some ⟨g, 0, none⟩) n cap) ps) (j : Nat) (hj : j < ps.length) (i : Nat) (hi : i < k) : w.cell? ⟨g, j * k + i, none⟩ = ps[j].2[i]? := by
  have hlen := (h.one _ (List.getElem_mem hj)).1
  have hc := h.row.cells (g := g) rfl
  have hat := flat_at h.one j hj i hi
  have hv : ps[j].2[i]? = some (ps[j].2[i]'(by omega)) := List.getElem?_eq_getElem _
  have := hc _ _ (hat.trans hv)
  rw [Addr.add_lit, Nat.zero_add] at this
  rw [this, hv]
/-- What reads such a row: each element's cells, and the element. -/
def ReadD {α : Type} (R : World → α → List Value → Prop) (k : Nat) (a : Option Addr) (ps : List (α × List Value)) (W : World) : Prop :=
  ps = [] ∨ ∃ g : Nat, a = some ⟨g, 0, none⟩ ∧ g < W.heap.size ∧ ∀ j (hj : j < ps.length), (∀ i, i < k → W.cell? ⟨g, j * k + i, none⟩ = ps[j].2[i]?) ∧ ps[j].2.length = k ∧ R W ps[j].1 ps[j].2
theorem OwnD.reads {α : Type} {R : World → α → List Value → Prop} {k : Nat} {T : TypeId} {S : Nat → Prop} {lo n cap : Nat} {a : Option Addr} {w : World} {ps : List (α × List Value)} (h : OwnD R k T S lo w (.slice a n cap) ps) (hS : ∀ b, lo ≤ b → S b) : KpD S w (ReadD R k a ps) := by
  intro W hW
  have h' := h.stay hW hS
  by_cases h0 : ps = []
  · exact .inl h0
  have hpos : 0 < ps.length := List.length_pos_iff.2 h0
  rcases h'.row.2 with ⟨_, h1⟩ | ⟨g, cap', cur, hv, _⟩
  · omega
  simp only [Value.slice.injEq] at hv
  obtain ⟨rfl, rfl, rfl⟩ := hv
  exact .inr ⟨g, rfl, (h'.row.lt g rfl).2, fun j hj => ⟨fun i hi => h'.cell j hj i hi, (h'.one _ (List.getElem_mem hj)).1, (h'.els _ (List.getElem_mem hj)).now⟩⟩

/-- Some more behind all: the news lie as cells from an address on. -/
theorem OwnD.more {α : Type} {R : World → α → List Value → Prop} {k : Nat} {T : TypeId} {S : Nat → Prop} {lo : Nat} {w : World} {v : Value} {ps : List (α × List Value)} (h : OwnD R k T S lo w v ps) (hlo : lo ≤ w.heap.size)
    (t : TypeId) (i : TypeInfo) (z : Value) (bytes : Nat) (ht : Tryz.prog.underlying t = some (.slice T)) (hi : Tryz.prog.info? T = some i) (hz : i.zero = some z) (hk : i.size = k) (hby : i.bytes = bytes) (hzs : z.cells.size = k) (hk0 : 0 < k) (hbb : bytes ≤ 1000)
    (ad : Addr) (c : Nat) (xs : List (α × List Value)) (hx0 : 0 < xs.length) (hone : ∀ p ∈ xs, p.2.length = k ∧ ∀ u ∈ p.2, u.oneCell' = true)
    (hnews : ∀ j u, ((xs.map Prod.snd).flatten)[j]? = some u → w.cell? (ad.add j) = some u) (hn : ps.length + xs.length ≤ 10000) (hels : ∀ p ∈ xs, KpD (OffD S v.ownBlock) w (fun W => R W p.1 p.2)) :
    ∃ g cap w', (Builtin.append_ #[t, t] t #[v, .slice (some ad) xs.length c]).run Tryz.prog w = .ok (.slice (some ⟨g, 0, none⟩) (ps.length + xs.length) cap) w' ∧
      OwnD R k T S lo w' (.slice (some ⟨g, 0, none⟩) (ps.length + xs.length) cap) (ps ++ xs) ∧ w.grownBy w' v.ownBlock := by
  have hb2 : (ps.length + xs.length) * bytes ≤ 10000 * 1000 := Nat.mul_le_mul hn hbb
  obtain ⟨g, cap, w', hr, h2, h3, h4, h5⟩ := run_append_lies (P := Tryz.prog) (w := w) t t lo T i z k bytes ht hi hz hk hby hzs hk0 v ps.length _ h.row ad xs.length c _ (flat_len hone) hnews
    (fun u hu => by
      rw [List.mem_flatten] at hu
      obtain ⟨l, hl, hu⟩ := hu
      obtain ⟨p, hp, rfl⟩ := List.mem_map.1 hl
      exact (hone p hp).2 u hu) hx0 (by unfold maxLen; omega) (by omega) hlo _ rfl
  refine ⟨g, cap, w', hr, ⟨?_, ?_, ?_⟩, h3⟩
  · rw [List.length_append, List.map_append, List.flatten_append]; exact h2
  · intro p hp
    rcases List.mem_append.1 hp with hp | hp
    · exact h.one p hp
    · exact hone p hp
  · have hall : ∀ p : α × List Value, KpD (OffD S v.ownBlock) w (fun W => R W p.1 p.2) → KpD (OffD S (Value.slice (some ⟨g, 0, none⟩) (ps.length + xs.length) cap).ownBlock) w' (fun W => R W p.1 p.2) := by
      intro p hp W hW
      refine hp W ⟨Nat.le_trans h3.size hW.1, fun b hb hs => (hW.2 b (Nat.lt_of_lt_of_le hb h3.size) ⟨hs.1, ?_⟩).trans (h3.block b hb hs.2)⟩
      intro e
      have e' : b = g := by
        have := Option.some.inj (show some b = some g from e)
        exact this
      rcases h4 with h4 | h4
      · exact hs.2 (by rw [h4, e'])
      · omega
    intro p hp
    rcases List.mem_append.1 hp with hp | hp
    · exact hall p (h.els p hp)
    · exact hall p (hels p hp)
/-- One more: its cells lie in the block that was made last. -/
theorem OwnD.push {α : Type} {R : World → α → List Value → Prop} {k : Nat} {T : TypeId} {S : Nat → Prop} {lo : Nat} {w : World} {v : Value} {ps : List (α × List Value)} (h : OwnD R k T S lo w v ps) (hlo : lo ≤ w.heap.size) (hS : ∀ b, lo ≤ b → S b)
    (t : TypeId) (i : TypeInfo) (z : Value) (bytes : Nat) (ht : Tryz.prog.underlying t = some (.slice T)) (hi : Tryz.prog.info? T = some i) (hz : i.zero = some z) (hk : i.size = k) (hby : i.bytes = bytes) (hzs : z.cells.size = k) (hk0 : 0 < k) (hbb : bytes ≤ 1000)
    (x : α) (C : List Value) (hC : C.length = k) (hone : ∀ u ∈ C, u.oneCell' = true) (hn : ps.length + 1 ≤ 10000) (hx : KpD (OffD S v.ownBlock) w (fun W => R W x C)) :
    ∃ g cap w', (Builtin.append_ #[t, t] t #[v, .slice (some ⟨w.heap.size, 0, none⟩) 1 1]).run Tryz.prog (w.alloc (.cells C.toArray T)) = .ok (.slice (some ⟨g, 0, none⟩) (ps.length + 1) cap) w' ∧
      OwnD R k T S lo w' (.slice (some ⟨g, 0, none⟩) (ps.length + 1) cap) (ps ++ [(x, C)]) ∧ (w.alloc (.cells C.toArray T)).grownBy w' v.ownBlock := by
  have hst : ∀ S' : Nat → Prop, StayD S' w (w.alloc (.cells C.toArray T)) := fun S' => (StayD.refl S' w).alloc _
  exact (h.stay (hst _) hS).more (by rw [alloc_size]; omega) t i z bytes ht hi hz hk hby hzs hk0 hbb ⟨w.heap.size, 0, none⟩ 1 [(x, C)] (by simp) (by
    intro p hp
    rw [List.mem_singleton] at hp
    subst hp
    exact ⟨hC, hone⟩) (fun j u hu => by
    rw [Addr.add_lit, Nat.zero_add, alloc_cell]
    simpa using hu) hn (by
    intro p hp
    rw [List.mem_singleton] at hp
    subst hp
    exact hx.stay (hst _))
end Go.Proofs.YtffabnmgcicpiaaGreat

namespace Go.Proofs.YtffabnmgcicpiaaGreat
open Go.RowKit Go.PlainAid

/-- A list of numbers that lies in block L. -/
def IsNums (w : World) (L : Nat) (zs : List Int) : Prop := ∀ j (hj : j < zs.length), w.cell? ⟨L, j, none⟩ = some (.int .i64 zs[j])
set_option maxHeartbeats 400000 in
theorem num_any (B L c : Nat) (zs : List Int) (a : Option Addr) (len cap p : Nat) (w : World) (h : IsRd w B a len cap p) (hp : p ≤ 1000000000000) (hLB : L ≠ B) (hm1 : 1 ≤ zs.length) (hm2 : zs.length ≤ 1000) (hL : IsNums w L zs) :
    Calls Tryz.prog 62 #[.pointer (some ⟨B, 0, none⟩), .slice (some ⟨L, 0, none⟩) zs.length c] w fun e w' => ∃ z : Int, z ∈ zs ∧ e = .returned (.int .i64 z) ∧ IsRd w' B a len cap (p + 1) ∧ Moved B w w' := by
  have HP := hide (fun n (hn : n ≤ 1000000) => pick_any B a len cap p n w h hp hn)
  have HR := hide h
  clear h
  obtain ⟨m, hm⟩ : ∃ m, zs.length = m := ⟨_, rfl⟩
  rw [hm] at hm1 hm2 ⊢
  have HM := hide hm
  clear hm
  go_enter Tryz.func62, Tryz.ntmps62
  go_wp2_with fail
  refine (unhide HP _ (by omega)).mono ?_
  rintro e w1 ⟨i, rfl, i0, i1, k, rfl⟩
  have i2 := i1 (by omega)
  clear i1
  obtain ⟨j, rfl⟩ := Int.eq_ofNat_of_zero_le i0
  have hjz : j < zs.length := by rw [unhide HM]; omega
  have hc : w.cell? ⟨L, j, none⟩ = some (.int .i64 zs[j]) := hL j hjz
  obtain ⟨z, hz⟩ : ∃ z, zs[j] = z := ⟨_, rfl⟩
  rw [hz] at hc
  have HZ : Hid (z ∈ zs) := hide (by rw [← hz]; exact List.getElem_mem hjz)
  clear hL hz hjz
  go_wp2
  go_ret
  exact ⟨z, unhide HZ, rfl, (unhide HR).next k, moved_set w B k _⟩
/-- Nothing but the block B has turned, of what was there. -/
def MovedG (B : Nat) (w w' : World) : Prop := Below B w w' ∧ ∀ b, b < w.heap.size → b ≠ B → w'.heap[b]? = w.heap[b]?
theorem MovedG.refl (B : Nat) (w : World) : MovedG B w w := ⟨Below.refl _ _, fun _ _ _ => rfl⟩
theorem MovedG.trans {B : Nat} {w w' w'' : World} (h : MovedG B w w') (k : MovedG B w' w'') : MovedG B w w'' := ⟨h.1.trans k.1, fun b hb hB => (k.2 b (Nat.lt_of_lt_of_le hb h.1.size) hB).trans (h.2 b hb hB)⟩
theorem Moved.g {B : Nat} {w w' : World} (h : Moved B w w') : MovedG B w w' := ⟨h.1, fun b _ hB => h.2.2 b hB⟩
theorem MovedG.below {B : Nat} {w w' : World} (h : Below w.heap.size w w') (hB : B ≤ w.heap.size) : MovedG B w w' := ⟨h.mono hB, fun b hb _ => h.block b hb⟩
theorem MovedG.setE {B : Nat} {w w2 : World} (h : MovedG B w w2) (R i : Nat) (v : Value) (h1 : w.heap.size ≤ R) (h2 : B ≤ R) : MovedG B w (w2.setCell ⟨R, i, none⟩ v) :=
  ⟨h.1.setCell (p := ⟨R, i, none⟩) h2 v, fun b hb hB => (Below.heap_setCell _ _ _ _ (by simp; omega)).trans (h.2 b hb hB)⟩
theorem IsRd.setE {w : World} {B : Nat} {a : Option Addr} {len cap p : Nat} (h : IsRd w B a len cap p) (R i : Nat) (v : Value) (h2 : B < R) : IsRd (w.setCell ⟨R, i, none⟩ v) B a len cap p :=
  h.kept ((Below.refl _ _).setCell (p := ⟨R, i, none⟩) h2 v)
theorem MovedG.drew {B : Nat} {w w2 : World} (h : MovedG B w w2) : MovedG B w w2.drew := ⟨h.1.drew, h.2⟩
theorem MovedG.grown {B : Nat} {w X X' : World} {v : Value} (h : MovedG B w X) (hg : X.grownBy X' v.ownBlock) (hv : ∀ k, v.ownBlock = some k → w.heap.size ≤ k ∧ B ≤ k) (hB : B ≤ w.heap.size) : MovedG B w X' :=
  ⟨h.1.grown hg (Nat.le_trans hB h.1.size) (fun k hk => (hv k hk).2), fun b hb hbB => (hg.block b (Nat.lt_of_lt_of_le hb h.1.size) (fun e => by have := (hv b e.symm).1; omega)).trans (h.2 b hb hbB)⟩
theorem nums_new (W : World) (zs : List Int) (C : Array Value) (hC : C = (zs.map (Value.int .i64)).toArray) : IsNums (W.alloc (.cells C 3)) W.heap.size zs := by
  intro j hj
  rw [alloc_cell, hC]
  simp [hj]
theorem words_new (W : World) (m : Nat) (f : Nat → ByteArray) (C : Array Value) (hC : ∀ j, j < m → C[j]? = some (.string (f j))) : IsList (W.alloc (.cells C 9)) W.heap.size m f := fun j hj => by rw [alloc_cell]; exact hC j hj
theorem MovedG.stay {B : Nat} {S : Nat → Prop} {w w' : World} (h : MovedG B w w') (hS : ∀ b, S b → b ≠ B) : StayD S w w' := ⟨h.1.size, fun b hb hs => h.2 b hb (hS b hs)⟩
theorem MovedG.alloc {B : Nat} {w w2 : World} (h : MovedG B w w2) (hB : B ≤ w2.heap.size) (o : Obj) : MovedG B w (w2.alloc o) := h.trans (MovedG.below ((Below.refl _ _).alloc (Nat.le_refl _) _) hB)
/-- What a draw leaves: a reader that has gone on, at most n places, and nothing else turned. -/
structure RdM (B : Nat) (a : Option Addr) (len cap n : Nat) (w w' : World) (p q : Nat) : Prop where
  rd : IsRd w' B a len cap q
  mv : MovedG B w w'
  le : q ≤ p + n
theorem RdM.refl {B : Nat} {a : Option Addr} {len cap p : Nat} {w : World} (h : IsRd w B a len cap p) : RdM B a len cap 0 w w p p := ⟨h, MovedG.refl B w, Nat.le_refl _⟩
theorem RdM.trans {B : Nat} {a : Option Addr} {len cap n m p q r : Nat} {w w' w'' : World} (h : RdM B a len cap n w w' p q) (k : RdM B a len cap m w' w'' q r) : RdM B a len cap (n + m) w w'' p r :=
  ⟨k.rd, h.mv.trans k.mv, by have := h.le; have := k.le; omega⟩
theorem RdM.more {B : Nat} {a : Option Addr} {len cap n m p q : Nat} {w w' : World} (h : RdM B a len cap n w w' p q) (hm : n ≤ m) : RdM B a len cap m w w' p q := ⟨h.rd, h.mv, by have := h.le; omega⟩
theorem RdM.alloc {B : Nat} {a : Option Addr} {len cap n p q : Nat} {w w' : World} (h : RdM B a len cap n w w' p q) (hB : B < w.heap.size) (o : Obj) : RdM B a len cap n w (w'.alloc o) p q :=
  ⟨h.rd.kept (((Below.refl _ _).alloc (Nat.le_refl _) _).mono (Nat.lt_of_lt_of_le hB h.mv.1.size)), h.mv.alloc (Nat.le_of_lt (Nat.lt_of_lt_of_le hB h.mv.1.size)) o, h.le⟩
theorem RdM.drew {B : Nat} {a : Option Addr} {len cap n p q : Nat} {w w' : World} (h : RdM B a len cap n w w' p q) : RdM B a len cap n w w'.drew p q := ⟨h.rd.kept (Below.refl _ _).drew, h.mv.drew, h.le⟩
theorem RdM.below {B : Nat} {a : Option Addr} {len cap n p q : Nat} {w w' w'' : World} (h : RdM B a len cap n w w' p q) (hB : B < w.heap.size) (hb : Below w'.heap.size w' w'') : RdM B a len cap n w w'' p q :=
  ⟨h.rd.kept (hb.mono (Nat.lt_of_lt_of_le hB h.mv.1.size)), h.mv.trans (MovedG.below hb (Nat.le_of_lt (Nat.lt_of_lt_of_le hB h.mv.1.size))), h.le⟩
theorem RdM.set {B : Nat} {a : Option Addr} {len cap n p q : Nat} {w w' : World} (h : RdM B a len cap n w w' p q) (hB : B < w.heap.size) (R i : Nat) (v : Value) (hR : w.heap.size ≤ R) : RdM B a len cap n w (w'.setCell ⟨R, i, none⟩ v) p q :=
  ⟨h.rd.setE R i v (by omega), h.mv.setE R i v hR (by omega), h.le⟩
theorem RdM.grown {B : Nat} {a : Option Addr} {len cap n p q : Nat} {w w' w'' : World} {v : Value} (h : RdM B a len cap n w w' p q) (hB : B < w.heap.size) (hg : w'.grownBy w'' v.ownBlock) (hv : ∀ k, v.ownBlock = some k → w.heap.size ≤ k) : RdM B a len cap n w w'' p q :=
  ⟨h.rd.kept ((Below.refl (B + 1) w').grown hg (by have := h.mv.1.size; omega) (fun k hk => by have := hv k hk; omega)), h.mv.grown hg (fun k hk => ⟨hv k hk, by have := hv k hk; omega⟩) (Nat.le_of_lt hB), h.le⟩
theorem RdM.size {B : Nat} {a : Option Addr} {len cap n p q : Nat} {w w' : World} (h : RdM B a len cap n w w' p q) : w.heap.size ≤ w'.heap.size := h.mv.1.size
theorem pick_rd (B : Nat) (a : Option Addr) (len cap p : Nat) (n : Int) (w : World) (h : IsRd w B a len cap p) (hp : p ≤ 1000000000000) (hn : n ≤ 1000000) :
    Calls Tryz.prog 24 #[.pointer (some ⟨B, 0, none⟩), .int .i64 n] w fun e w' => ∃ i : Int, e = .returned (.int .i64 i) ∧ 0 ≤ i ∧ (1 ≤ n → i < n) ∧ RdM B a len cap 1 w w' p (p + 1) ∧ w'.heap.size = w.heap.size := by
  refine (pick_abs B a len cap p n w h hp hn).mono ?_
  rintro e w' ⟨i, he, h0, h1, hr, hm⟩
  exact ⟨i, he, h0, h1, ⟨hr, hm.g, Nat.le_refl _⟩, hm.2.1⟩
theorem of_rd (B L m c : Nat) (f : Nat → ByteArray) (a : Option Addr) (len cap p : Nat) (w : World) (h : IsRd w B a len cap p) (hp : p ≤ 1000000000000) (hLB : L ≠ B) (hm1 : 1 ≤ m) (hm2 : m ≤ 1000) (hL : IsList w L m f) :
    Calls Tryz.prog 38 #[.pointer (some ⟨B, 0, none⟩), .slice (some ⟨L, 0, none⟩) m c] w fun e w' => ∃ j, j < m ∧ e = .returned (.string (f j)) ∧ RdM B a len cap 1 w w' p (p + 1) ∧ w'.heap.size = w.heap.size := by
  refine (of_abs B L m c f a len cap p w h hp hLB hm1 hm2 hL).mono ?_
  rintro e w' ⟨j, hj, he, hr, hm⟩
  exact ⟨j, hj, he, ⟨hr, hm.g, Nat.le_refl _⟩, hm.2.1⟩
theorem num_rd (B L c : Nat) (zs : List Int) (a : Option Addr) (len cap p : Nat) (w : World) (h : IsRd w B a len cap p) (hp : p ≤ 1000000000000) (hLB : L ≠ B) (hm1 : 1 ≤ zs.length) (hm2 : zs.length ≤ 1000) (hL : IsNums w L zs) :
    Calls Tryz.prog 62 #[.pointer (some ⟨B, 0, none⟩), .slice (some ⟨L, 0, none⟩) zs.length c] w fun e w' => ∃ z : Int, z ∈ zs ∧ e = .returned (.int .i64 z) ∧ RdM B a len cap 1 w w' p (p + 1) ∧ w'.heap.size = w.heap.size := by
  refine (num_any B L c zs a len cap p w h hp hLB hm1 hm2 hL).mono ?_
  rintro e w' ⟨z, hz, he, hr, hm⟩
  exact ⟨z, hz, he, ⟨hr, hm.g, Nat.le_refl _⟩, hm.2.1⟩
end Go.Proofs.YtffabnmgcicpiaaGreat

namespace Go.Proofs.YtffabnmgcicpiaaGreat
open Go.RowKit Go.PlainAid

/-- The five cells of a row's expression. -/
def EltE (h : Nat) (W : World) (e : TE) (C : List Value) : Prop := ∃ c0 c1 c2 c3 c4 : Value, C = [c0, c1, c2, c3, c4] ∧ IsE W 0 W.heap.size h (.agg #[c0, c1, c2, c3, c4]) e
theorem IsE.up {w : World} {lo n : Nat} : ∀ (h : Nat) (v : Value) (e : TE), IsE w lo n h v e → IsE w lo n (h + 1) v e
  | 0, _, _, hE => hE.elim
  | h + 1, v, .node k m nm md kids, hE => by
    obtain ⟨a, cap, hv, hz, hk⟩ := hE
    exact ⟨a, cap, hv, hz, hk.mono (IsE.up h) (fun _ _ _ => rfl) (Nat.le_refl _) (Nat.le_refl _)⟩
theorem IsE.ups {w : World} {lo n h h' : Nat} {v : Value} {e : TE} (hE : IsE w lo n h v e) (hh : h ≤ h') : IsE w lo n h' v e := by
  induction h' with
  | zero => exact (Nat.le_zero.1 hh) ▸ hE
  | succ k ih =>
    by_cases g : h ≤ k
    · exact IsE.up k v e (ih g)
    · have : h = k + 1 := by omega
      exact this ▸ hE
theorem EltE.of {h : Nat} {W : World} {c0 c1 c2 c3 c4 : Value} {e : TE} (hE : IsE W 0 W.heap.size h (.agg #[c0, c1, c2, c3, c4]) e) : EltE h W e [c0, c1, c2, c3, c4] := ⟨_, _, _, _, _, rfl, hE⟩
theorem ReadD.kids {h : Nat} {a : Option Addr} {ps : List (TE × List Value)} {W : World} (hr : ReadD (EltE h) 5 a ps W) : IsKids (IsE W 0 W.heap.size h) W 0 W.heap.size a (ps.map Prod.fst) := by
  rcases hr with rfl | ⟨g, rfl, hg, hc⟩
  · exact .inl rfl
  · refine .inr ⟨g, 0, rfl, Nat.zero_le _, hg, fun j hj => ?_⟩
    have hj' : j < ps.length := by simpa using hj
    obtain ⟨h1, h2, c0, c1, c2, c3, c4, e, hE⟩ := hc j hj'
    have hx : ∀ i, i < 5 → W.cell? ⟨g, 0 + j * 5 + i, none⟩ = [c0, c1, c2, c3, c4][i]? := fun i hi => by rw [Nat.zero_add, h1 i hi, e]
    refine ⟨c0, c1, c2, c3, c4, hx 0 (by omega), hx 1 (by omega), hx 2 (by omega), hx 3 (by omega), hx 4 (by omega), ?_⟩
    rw [List.getElem_map]
    exact hE
theorem IsKids.kp {h lo : Nat} {S : Nat → Prop} {w : World} {a : Option Addr} {kids : List TE} (hk : IsKids (IsE w lo w.heap.size h) w lo w.heap.size a kids) (hS : ∀ b, lo ≤ b → S b) : KpD S w (fun W => IsKids (IsE W 0 W.heap.size h) W 0 W.heap.size a kids) :=
  fun _ hW => hk.mono (fun v e he => IsE.same (fun b h1 h2 => hW.2 b h2 (hS b h1)) (Nat.zero_le _) hW.1 h v e he) (fun b h1 h2 => hW.2 b h2 (hS b h1)) (Nat.zero_le _) hW.1
/-- A value that is an expression and stays one where the blocks of S stay. -/
abbrev KeepE (S : Nat → Prop) (h : Nat) (w : World) (v : Value) (e : TE) : Prop := KpD S w (fun W => IsE W 0 W.heap.size h v e)
theorem keepE_node {S : Nat → Prop} {h : Nat} {w : World} {k m : Int} {nm md : ByteArray} {a : Option Addr} {cap n : Nat} {kids : List TE} (hk : KpD S w (fun W => IsKids (IsE W 0 W.heap.size h) W 0 W.heap.size a kids)) (hn : kids.length = n) (hn2 : n ≤ 1000) (h1 : nm.size ≤ 1000) (h2 : md.size ≤ 1000) :
    KeepE S (h + 1) w (.agg #[.int .i64 k, .int .i64 m, .string nm, .string md, .slice a n cap]) (.node k m nm md kids) := by
  intro _ hW
  subst hn
  exact ⟨a, cap, rfl, by unfold maxLen; omega, hk _ hW⟩
theorem keepE_leaf {S : Nat → Prop} {h : Nat} {w : World} {k m : Int} {nm md : ByteArray} (h1 : nm.size ≤ 1000) (h2 : md.size ≤ 1000) :
    KeepE S (h + 1) w (.agg #[.int .i64 k, .int .i64 m, .string nm, .string md, .slice none 0 0]) (.node k m nm md []) :=
  keepE_node (kids := []) (fun _ _ => .inl rfl) rfl (by omega) h1 h2
theorem IsE.five {w : World} {lo n h : Nat} {v : Value} {e : TE} (hE : IsE w lo n h v e) : ∃ (k m : Int) (nm md : ByteArray) (a : Option Addr) (l c : Nat), v = .agg #[.int .i64 k, .int .i64 m, .string nm, .string md, .slice a l c] := by
  cases h with
  | zero => exact hE.elim
  | succ h =>
    cases e with
    | node k m nm md kids =>
      obtain ⟨a, cap, hv, _⟩ := hE
      exact ⟨_, _, _, _, _, _, _, hv⟩
theorem wtL_map {ps : List (TE × List Value)} {N : Nat} (h : ∀ p ∈ ps, p.1.wt ≤ N) : wtL (ps.map Prod.fst) ≤ ps.length * N := by
  induction ps with
  | nil => simp [wtL]
  | cons x t ih =>
    have h1 := h x (by simp)
    have h2 := ih (fun p hp => h p (by simp [hp]))
    simp only [List.map_cons, wtL, List.length_cons]
    rw [Nat.add_mul]; omega
theorem infoE : (Tryz.prog.info? 31).map (fun i => (i.zero, i.size, i.bytes)) = some (some (.agg #[.int .i64 0, .int .i64 0, .string ⟨#[]⟩, .string ⟨#[]⟩, .slice none 0 0]), 5, 72) := by kernel_rfl
/-- One expression more in a row. -/
theorem pushE {h : Nat} {S : Nat → Prop} {lo : Nat} {w : World} {v : Value} {ps : List (TE × List Value)} (hr : OwnD (EltE h) 5 31 S lo w v ps) (hlo : lo ≤ w.heap.size) (hS : ∀ b, lo ≤ b → S b) (hn : ps.length + 1 ≤ 10000)
    (k m : Int) (nm md : ByteArray) (a : Option Addr) (l c : Nat) (e : TE) (hE : KeepE (OffD S v.ownBlock) h w (.agg #[.int .i64 k, .int .i64 m, .string nm, .string md, .slice a l c]) e) :
    ∃ g cap w', (Builtin.append_ #[25, 25] 25 #[v, .slice (some ⟨w.heap.size, 0, none⟩) 1 1]).run Tryz.prog (w.alloc (.cells #[.int .i64 k, .int .i64 m, .string nm, .string md, .slice a l c] 31)) = .ok (.slice (some ⟨g, 0, none⟩) (ps.length + 1) cap) w' ∧
      OwnD (EltE h) 5 31 S lo w' (.slice (some ⟨g, 0, none⟩) (ps.length + 1) cap) (ps ++ [(e, [.int .i64 k, .int .i64 m, .string nm, .string md, .slice a l c])]) ∧ (w.alloc (.cells #[.int .i64 k, .int .i64 m, .string nm, .string md, .slice a l c] 31)).grownBy w' v.ownBlock := by
  obtain ⟨i0, hi, hz0, hz1, hz2⟩ := info_parts infoE
  exact hr.push hlo hS 25 i0 _ 72 Tryz.underlying25 hi hz0 hz1 hz2 rfl (by omega) (by omega) e _ rfl (by
    intro u hu
    simp only [List.mem_cons, List.not_mem_nil, or_false] at hu
    rcases hu with rfl | rfl | rfl | rfl | rfl <;> rfl) hn (hE.imp (fun W hW => EltE.of hW))
theorem Blk.ofb {w w' : World} {B : Nat} {C : List Value} (h : Blk w B C) (hb : w'.heap[B]? = w.heap[B]?) : Blk w' B C :=
  ⟨fun i => (World.cell?_of_block (w := w) (a := ⟨B, i, none⟩) hb).trans (h.1 i), fun i => (World.frozen?_of_block (w := w) (a := ⟨B, i, none⟩) hb).trans (h.2 i)⟩
/-- One expression more in a row of kids, beside a block that stays, and a reader. -/
theorem kidsPush {B E lo N h p q : Nat} {a0 : Option Addr} {len cap : Nat} {W1 w : World} {sa : Option Addr} {sc : Nat} {ps : List (TE × List Value)} {C : List Value}
    (hO : OwnD (EltE h) 5 31 (fun b => lo ≤ b) lo w (.slice sa ps.length sc) ps) (hlo : lo ≤ w.heap.size) (hE : E < lo) (hb : Blk w E C) (hR : RdM B a0 len cap N W1 w p q) (hB : B < W1.heap.size) (hW : W1.heap.size ≤ lo) (hn : ps.length + 1 ≤ 10000)
    (k m : Int) (nm md : ByteArray) (a : Option Addr) (l c : Nat) (e : TE) (hK : KeepE (OffD (fun b => lo ≤ b) (Value.slice sa ps.length sc).ownBlock) h w (.agg #[.int .i64 k, .int .i64 m, .string nm, .string md, .slice a l c]) e) :
    ∃ g c5 w5, (Builtin.append_ #[25, 25] 25 #[.slice sa ps.length sc, .slice (some ⟨w.heap.size, 0, none⟩) 1 1]).run Tryz.prog (w.alloc (.cells #[.int .i64 k, .int .i64 m, .string nm, .string md, .slice a l c] 31)) = .ok (.slice (some ⟨g, 0, none⟩) (ps.length + 1) c5) w5 ∧
      OwnD (EltE h) 5 31 (fun b => lo ≤ b) lo w5 (.slice (some ⟨g, 0, none⟩) (ps.length + 1) c5) (ps ++ [(e, [.int .i64 k, .int .i64 m, .string nm, .string md, .slice a l c])]) ∧ Blk w5 E C ∧ RdM B a0 len cap N W1 w5 p q ∧ lo ≤ w5.heap.size ∧ StayD (fun b => b < lo) w w5 := by
  obtain ⟨g, c5, w5, r5, o5, y5⟩ := pushE hO hlo (fun _ h => h) hn k m nm md a l c e hK
  have hown : ∀ g, (Value.slice sa ps.length sc).ownBlock = some g → lo ≤ g := fun g hg => (hO.row.lt g hg).1
  have hsz : w.heap.size + 1 ≤ w5.heap.size := by have := y5.size; rw [alloc_size] at this; exact this
  have hst : StayD (fun b => b < lo) w w5 := ((StayD.refl _ w).alloc _).grown y5 (fun b _ hs e => by have := hown b e.symm; omega)
  exact ⟨g, c5, w5, r5, o5, hb.ofb (hst.2 E (by omega) hE), (hR.alloc hB _).grown hB y5 (fun k hk => by have := hown k hk; omega), by omega, hst⟩
/-- A row that is written out: its cells lie in a block of their own. -/
theorem lit_alloc {h : Nat} {S : Nat → Prop} {w : World} (ps : List (TE × List Value)) (T : TypeId) (hS : S w.heap.size) (h5 : ∀ p ∈ ps, p.2.length = 5 ∧ ∀ u ∈ p.2, u.oneCell' = true) (he : ∀ p ∈ ps, KpD S w (fun W => EltE h W p.1 p.2)) :
    KpD S (w.alloc (.cells ((ps.map Prod.snd).flatten).toArray T)) (fun W => IsKids (IsE W 0 W.heap.size h) W 0 W.heap.size (some ⟨w.heap.size, 0, none⟩) (ps.map Prod.fst)) := by
  intro W hW
  refine ReadD.kids (.inr ⟨w.heap.size, rfl, Nat.lt_of_lt_of_le (by rw [alloc_size]; omega) hW.1, fun j hj => ⟨fun i hi => ?_, (h5 _ (List.getElem_mem hj)).1, (he _ (List.getElem_mem hj)) W (((StayD.refl S w).alloc _).trans hW)⟩⟩)
  have hc := World.cell?_of_block (w := w.alloc (.cells ((ps.map Prod.snd).flatten).toArray T)) (w' := W) (a := ⟨w.heap.size, j * 5 + i, none⟩) (hW.2 w.heap.size (by rw [alloc_size]; omega) hS)
  rw [hc, alloc_cell]
  simpa using flat_at h5 j hj i hi
end Go.Proofs.YtffabnmgcicpiaaGreat

namespace Go.Proofs.YtffabnmgcicpiaaGreat
open Go.RowKit Go.PlainAid

def isA (nm : ByteArray) (a : TA) : Bool := a.name.toList == nm.toList
/-- The type of the last variable of a name, and a code. -/
def varT (vars : List TA) (nm : ByteArray) : Int × Int := match vars.reverse.find? (isA nm) with | some a => (a.type, 0) | none => (0, 2)
/-- The type of a row that is written, and a code. -/
def listT (have_ : List Int) : Int × Int := if have_.all (fun x => x == 1) = true then (3, 0) else (0, 4)
/-- The type of what is applied, and a code. -/
def applyT (want : List Int) (res : Int) (have_ : List Int) : Int × Int := if want.length ≠ have_.length then (0, 3) else if want = have_ then (res, 0) else (0, 4)
theorem varT_at {vars : List TA} {nm : ByteArray} {k : Nat} (hk : k < vars.length) (hno : ∀ j (hj : j < vars.length), k < j → isA nm vars[j] = false) (he : isA nm vars[k] = true) : varT vars nm = (vars[k].type, 0) := by
  have : vars.reverse.find? (isA nm) = some vars[k] := by
    rw [List.find?_eq_some_iff_getElem]
    refine ⟨he, vars.length - 1 - k, by rw [List.length_reverse]; omega, ?_, fun j hj => ?_⟩
    · rw [List.getElem_reverse]
      congr 1
      omega
    · rw [List.getElem_reverse]
      simp [hno (vars.length - 1 - j) (by omega) (by omega)]
  unfold varT
  rw [this]
theorem varT_none {vars : List TA} {nm : ByteArray} (hno : ∀ j (hj : j < vars.length), isA nm vars[j] = false) : varT vars nm = (0, 2) := by
  have : vars.reverse.find? (isA nm) = none := by
    rw [List.find?_eq_none]
    intro x hx
    obtain ⟨j, hj, rfl⟩ := List.getElem_of_mem (List.mem_reverse.1 hx)
    simp [hno j hj]
  unfold varT
  rw [this]

set_option maxHeartbeats 1000000 in
theorem l4Var_any (lo : Nat) (a : Option Addr) (cap : Nat) (vars : List TA) (nm : ByteArray) (w : World) (h : IsArgs (IsArg w lo w.heap.size) w lo w.heap.size a vars) (hl : vars.length ≤ maxLen) :
    Calls Tryz.prog 65 #[.slice a vars.length cap, .string nm] w fun r w' => r = .returned (.tuple #[.int .i64 (varT vars nm).1, .int .i64 (varT vars nm).2]) ∧ w = w' := by
  unfold maxLen at hl
  have HW := hide h
  clear h
  obtain ⟨R, hR⟩ : ∃ R, varT vars nm = R := ⟨_, rfl⟩
  rw [hR]
  have HR := hide hR
  clear hR
  obtain ⟨r1, r2⟩ := R
  dsimp only
  go_enter Tryz.func65, Tryz.ntmps65
  go_wp2
  go_loop [6] (fun i => ∃ k : Nat, k ≤ vars.length ∧ i = .int .i64 ((k : Int) - 1) ∧ Hid (∀ j (hj : j < vars.length), k ≤ j → isA nm vars[j] = false)) (fun i => (intOf i + 1).toNat)
  case atStart => exact ⟨vars.length, Nat.le_refl _, by go_num, hide (fun j hj hk => absurd hj (by omega))⟩
  case round =>
    obtain ⟨k, hk, rfl, HN⟩ := hrel
    rcases k with _ | k
    · have HE := hide (Prod.mk.inj ((unhide HR).symm.trans (varT_none (fun j hj => unhide HN j hj (Nat.zero_le _)))))
      go_wp2
      go_ret2
      refine ⟨?_, rfl⟩
      rw [(unhide HE).1, (unhide HE).2]
      rfl
    · have hp : k < vars.length := by omega
      rcases unhide HW with hq | ⟨b, off, rfl, hbl, hbn, hcs⟩
      · rw [hq] at hp; simp at hp
      obtain ⟨c0, c1, d0, d1, hr⟩ := hcs k hp
      have HNX : Hid (isA nm (vars[k]'hp) = false → ∀ j (hj : j < vars.length), k ≤ j → isA nm vars[j] = false) := hide (fun h2 j hj hjk => by
        by_cases e : j = k
        · subst e; exact h2
        · exact unhide HN j hj (by omega))
      have HFX := hide (fun (h2 : isA nm (vars[k]'hp) = true) => Prod.mk.inj ((unhide HR).symm.trans (varT_at hp (fun j hj hjk => unhide HN j hj (by omega)) h2)))
      obtain ⟨x, hx⟩ : ∃ x, vars[k]'hp = x := ⟨_, rfl⟩
      rw [hx] at hr HNX HFX
      obtain ⟨xn, xt⟩ := x
      have hv := hr.1
      simp only [Value.agg.injEq, Array.mk.injEq, List.cons.injEq, and_true] at hv
      obtain ⟨rfl, rfl⟩ := hv
      have HIS : Hid (isA nm ⟨xn, xt⟩ = (xn.toList == nm.toList)) := hide rfl
      have hk1 : (((k + 1 : Nat) : Int) - 1) = (k : Int) := by omega
      rw [hk1]
      clear hcs hr hx hk1
      cases he : (xn.toList == nm.toList) with
      | true =>
        have HE := hide (unhide HFX ((unhide HIS).trans he))
        go_wp2
        go_ret2
        refine ⟨?_, rfl⟩
        rw [(unhide HE).1, (unhide HE).2]
        rfl
      | false =>
        have HE := hide (unhide HNX ((unhide HIS).trans he))
        go_wp2
        go_round
        case rel => exact ⟨k, by omega, by go_num, HE⟩
        case measure => simp [intOf] <;> omega

end Go.Proofs.YtffabnmgcicpiaaGreat

namespace Go.Proofs.YtffabnmgcicpiaaGreat
open Go.RowKit Go.PlainAid

theorem below_one (w : World) (o : Obj) : Below w.heap.size w (w.alloc o) := (Below.refl _ _).alloc (Nat.le_refl _) _
set_option maxHeartbeats 1000000 in
theorem l22NumE_any (z : Int) (w : World) :
    Calls Tryz.prog 39 #[.int .i64 z] w fun r w' => r = .returned (.agg #[.int .i64 1, .int .i64 z, .string ⟨#[]⟩, .string ⟨#[]⟩, .slice none 0 0]) ∧ Below w.heap.size w w' := by
  go_enter Tryz.func39, Tryz.ntmps39
  go_wp2
  refine bodyPost_ret (v := .agg #[.int .i64 1, .int .i64 z, .string ⟨#[]⟩, .string ⟨#[]⟩, .slice none 0 0]) (by simp [results, Tryz.results39, go_sem]) rfl ?_
  exact ⟨rfl, below_one _ _⟩
theorem emp_size : (⟨#[]⟩ : ByteArray).size = 0 := rfl
/-- A signature that may be called. -/
structure SG where
  mod : ByteArray
  name : ByteArray
  args : List Int
  t : Int
/-- The four cells of a row's signature. -/
def EltS (W : World) (s : SG) (C : List Value) : Prop := ∃ (aa : Option Addr) (ca : Nat), C = [.string s.mod, .string s.name, .slice aa s.args.length ca, .int .i64 s.t] ∧ IsInts W 0 W.heap.size aa s.args
/-- A signature that is not too great. -/
def SgOk (s : SG) : Prop := s.mod.size ≤ 8 ∧ s.name.size ≤ 8 ∧ s.args.length ≤ 4
/-- A generator in block G, with a reader in block B. -/
structure GenD (B G : Nat) (a : Option Addr) (len cap : Nat) (sa : Option Addr) (sc : Nat) (ss : List (SG × List Value)) (w : World) (p : Nat) : Prop where
  rd : IsRd w B a len cap p
  c0 : w.cell? ⟨G, 0, none⟩ = some (.pointer (some ⟨B, 0, none⟩))
  c1 : w.cell? ⟨G, 1, none⟩ = some (.slice sa ss.length sc)
  hB : B < w.heap.size
  hG : G < w.heap.size
  ne : G ≠ B
  sg : KpD (fun b => b ≠ B) w (ReadD EltS 4 sa ss)
theorem GenD.step {B G : Nat} {a : Option Addr} {len cap : Nat} {sa : Option Addr} {sc : Nat} {ss : List (SG × List Value)} {w w' : World} {p q n : Nat} (h : GenD B G a len cap sa sc ss w p) (k : RdM B a len cap n w w' p q) : GenD B G a len cap sa sc ss w' q :=
  ⟨k.rd, (World.cell?_of_block (w := w) (a := ⟨G, 0, none⟩) (k.mv.2 G h.hG h.ne)).trans h.c0, (World.cell?_of_block (w := w) (a := ⟨G, 1, none⟩) (k.mv.2 G h.hG h.ne)).trans h.c1, Nat.lt_of_lt_of_le h.hB k.size, Nat.lt_of_lt_of_le h.hG k.size, h.ne, h.sg.stay (k.mv.stay (fun _ h => h))⟩
/-- Variables that can be read wherever the reader alone turns. -/
abbrev KeepV (B : Nat) (w : World) (va : Option Addr) (vars : List TA) : Prop := KpD (fun b => b ≠ B) w (fun W => IsArgs (IsArg W 0 W.heap.size) W 0 W.heap.size va vars)
theorem KeepV.step {B : Nat} {a : Option Addr} {len cap n p q : Nat} {w w' : World} {va : Option Addr} {vars : List TA} (h : KeepV B w va vars) (k : RdM B a len cap n w w' p q) : KeepV B w' va vars := h.stay (k.mv.stay (fun _ h => h))

/-- The numbers of leaves. -/
def numsL : List Int := [0, 1, 2, 3, 5, 7, -1, -4, 100, 99999999999999999]
set_option maxRecDepth 100000 in
set_option maxHeartbeats 8000000 in
theorem leaf_any (B G : Nat) (a : Option Addr) (len cap : Nat) (sa : Option Addr) (sc : Nat) (ss : List (SG × List Value)) (t : Int) (va : Option Addr) (vc : Nat) (vars : List TA) (w : World) (p : Nat)
    (hg : GenD B G a len cap sa sc ss w p) (hp : p ≤ 900000000000) (hv : KeepV B w va vars) (hvl : vars.length ≤ 1000) (hvn : ∀ x ∈ vars, x.name.size ≤ 8) :
    Calls Tryz.prog 55 #[.pointer (some ⟨G, 0, none⟩), .int .i64 t, .slice va vars.length vc] w fun r w' => ∃ (v : Value) (e : TE) (q : Nat), r = .returned v ∧ KeepE (fun b => w.heap.size ≤ b) 2 w' v e ∧ e.wt ≤ 24 ∧ RdM B a len cap 20 w w' p q := by
  have HBW := hide hg.hB
  have HGW := hide hg.hG
  obtain ⟨W1, hW1⟩ : ∃ W1, W1 = w.alloc (.cells #[.int .i64 0, .int .i64 0, .string ⟨#[]⟩, .string ⟨#[]⟩, .slice none 0 0] 31) := ⟨_, rfl⟩
  have hrd0 : RdM B a len cap 0 w W1 p p := by rw [hW1]; exact (RdM.refl hg.rd).alloc hg.hB _
  have hblk : Blk W1 w.heap.size [.int .i64 0, .int .i64 0, .string ⟨#[]⟩, .string ⟨#[]⟩, .slice none 0 0] := by rw [hW1]; exact Blk.new w [.int .i64 0, .int .i64 0, .string ⟨#[]⟩, .string ⟨#[]⟩, .slice none 0 0] 31
  have HS1 : Hid (W1.heap.size = w.heap.size + 1) := hide (by rw [hW1]; simp)
  have HG := hide (hg.step hrd0)
  have HV := hide (KeepV.step hv hrd0)
  have HR0 := hide hrd0
  have HBK := hide hblk
  have HVN := hide hvn
  clear hg hv hvn hrd0 hblk
  go_enter Tryz.func55, Tryz.ntmps55
  go_wp2
  rw [← hW1]
  clear hW1
  go_loopw [7] (fun i wr => ∃ k q : Nat, i = .int .i64 k ∧ k ≤ 3 ∧ Hid (RdM B a len cap k W1 wr p q)) (fun i _ => 3 - (intOf i).toNat)
  case atStart => exact ⟨0, p, rfl, by omega, hide (RdM.refl (unhide HG).rd)⟩
  case round =>
    obtain ⟨k, q, rfl, hk, HR⟩ := hrel
    have hgr := (unhide HG).step (unhide HR)
    have c0 := hgr.c0
    have hq : q ≤ p + 3 := by have := (unhide HR).le; omega
    have HGR := hide hgr
    clear hgr
    have hM : w.heap.size < W1.heap.size := by rw [unhide HS1]; omega
    have HBR := hide ((unhide HBK).ofb ((unhide HR).mv.2 w.heap.size hM (by have := unhide HBW; omega)))
    have hGr : G < wr.heap.size := (unhide HGR).hG
    have hRW := hide ((unhide HR0).trans (unhide HR))
    have hMr : w.heap.size < wr.heap.size := Nat.lt_of_lt_of_le hM (unhide HR).size
    by_cases hgo : k < 3 ∧ 0 < vars.length
    · obtain ⟨hk3, hlv⟩ := hgo
      have HPK := hide (pick_rd B a len cap q (vars.length : Int) wr (unhide HGR).rd (by omega) (by omega))
      go_wp2_with fail
      refine (unhide HPK).mono ?_
      rintro r w2 ⟨i, rfl, i0, i1, hk2, hs2⟩
      have i2 := i1 (by omega)
      obtain ⟨j, rfl⟩ := Int.eq_ofNat_of_zero_le i0
      have hj : j < vars.length := by omega
      have hg2 := (unhide HGR).step hk2
      have hv2 := (KeepV.step (unhide HV) ((unhide HR).trans hk2))
      rcases hv2.now with hq | ⟨vb, voff, rfl, _, hvb, hcs⟩
      · rw [hq] at hlv; simp at hlv
      obtain ⟨d0, d1, e0, e1, hx⟩ := hcs j hj
      have hxn := unhide HVN _ (List.getElem_mem hj)
      obtain ⟨x, hxe⟩ : ∃ x, vars[j]'hj = x := ⟨_, rfl⟩
      rw [hxe] at hx hxn
      obtain ⟨xn, xt⟩ := x
      obtain ⟨hxv, hxz⟩ := hx
      simp only [Value.agg.injEq, Array.mk.injEq, List.cons.injEq, and_true] at hxv
      obtain ⟨rfl, rfl⟩ := hxv
      have hvb2 : vb ≠ w2.heap.size := by omega
      have HLV := hide (fun (W : World) (hb : Below w2.heap.size w2 W) => l4Var_any 0 (some ⟨vb, voff, none⟩) vc vars xn W (hv2.stay (StayD.below hb)).now (by unfold maxLen; omega))
      have HK2 := hide (((unhide HR).trans hk2).alloc (unhide HG).hB (.cells #[.string xn, .int .i64 xt] 75))
      have hw2 : w.heap.size < w2.heap.size := by rw [hs2]; exact hMr
      have HB2 := hide (((unhide HBR).ofb (hk2.mv.2 w.heap.size hMr (by have := unhide HBW; omega))).old (.cells #[.string xn, .int .i64 xt] 75) hw2)
      obtain ⟨TV, hTV⟩ : ∃ T, varT vars xn = T := ⟨_, rfl⟩
      rw [hTV] at HLV
      obtain ⟨lt, lc⟩ := TV
      dsimp only at hxn
      have HK1 := hide ((unhide HR).trans hk2)
      have HB1 := hide ((unhide HBR).ofb (hk2.mv.2 w.heap.size hMr (by have := unhide HBW; omega)))
      clear hcs hxe hk2 hg2 hv2 i1 HPK hTV hs2
      go_wp2_with fail
      refine (unhide HLV _ (below_one _ _)).mono ?_
      rintro r w3 ⟨rfl, rfl⟩
      by_cases hret : xt = t ∧ lt = t
      · have e1 : (xt == t) = true := by simpa using hret.1
        have e2 : (lt == t) = true := by simpa using hret.2
        clear hret
        have q0 := (unhide HB1).cellAt (i := 0) rfl
        have q1 := (unhide HB1).cellAt (i := 1) rfl
        have q2 := (unhide HB1).cellAt (i := 2) rfl
        have q3 := (unhide HB1).cellAt (i := 3) rfl
        have q4 := (unhide HB1).cellAt (i := 4) rfl
        have f0 := (unhide HB1).2 0
        have f1 := (unhide HB1).2 1
        have f2 := (unhide HB1).2 2
        have f3 := (unhide HB1).2 3
        have f4 := (unhide HB1).2 4
        go_wp2
        have hn := (((((((((((((unhide HB1)).set 0 (.int .i64 3) (by simp))).set 1 (.int .i64 0) (by simp))).set 2 (.string xn) (by simp))).set 3 (.string ⟨#[]⟩) (by simp))).set 4 (.slice none 0 0) (by simp))).old (.cells #[.string xn, .int .i64 xt] 75) (by simp [World.setCell]; exact hw2))
        have hK := ((((((((((((((unhide HR0).trans (unhide HK1))).set (unhide HBW) w.heap.size 0 (.int .i64 3) (by omega))).set (unhide HBW) w.heap.size 1 (.int .i64 0) (by omega))).set (unhide HBW) w.heap.size 2 (.string xn) (by omega))).set (unhide HBW) w.heap.size 3 (.string ⟨#[]⟩) (by omega))).set (unhide HBW) w.heap.size 4 (.slice none 0 0) (by omega))).alloc (unhide HBW) (.cells #[.string xn, .int .i64 xt] 75))
        obtain ⟨FW, hF⟩ : ∃ FW, FW = ((((((w2.setCell ⟨w.heap.size, 0, none⟩ (.int .i64 3)).setCell ⟨w.heap.size, 1, none⟩ (.int .i64 0)).setCell ⟨w.heap.size, 2, none⟩ (.string xn)).setCell ⟨w.heap.size, 3, none⟩ (.string ⟨#[]⟩)).setCell ⟨w.heap.size, 4, none⟩ (.slice none 0 0)).alloc (.cells #[.string xn, .int .i64 xt] 75)) := ⟨_, rfl⟩
        rw [← hF] at hn hK ⊢
        have g0 := hn.cellAt (i := 0) rfl
        have g1 := hn.cellAt (i := 1) rfl
        have g2 := hn.cellAt (i := 2) rfl
        have g3 := hn.cellAt (i := 3) rfl
        have g4 := hn.cellAt (i := 4) rfl
        refine bodyPost_ret (v := .agg #[.int .i64 3, .int .i64 0, .string xn, .string ⟨#[]⟩, .slice none 0 0]) (by simp [results, Tryz.results55, go_sem, g0, g1, g2, g3, g4]) rfl ?_
        exact ⟨_, .node 3 0 xn ⟨#[]⟩ [], _, rfl, keepE_leaf (by omega) (Nat.zero_le _), by simp [TE.wt, wtL, emp_size]; omega, hK.more (by omega)⟩
      · have hno : (xt == t) = false ∨ ((xt == t) = true ∧ (lt == t) = false) := by
          by_cases e1 : xt = t
          · exact .inr ⟨by simp [e1], by simpa using fun e => hret ⟨e1, e⟩⟩
          · exact .inl (by simpa using e1)
        rcases hno with e1 | ⟨e1, e2⟩
        all_goals
          go_wp2
          go_roundw
          case rel => exact ⟨k + 1, _, by go_num, by omega, HK2⟩
          case measure => simp [intOf]; omega
    · have hex : ¬ k < 3 ∨ (k < 3 ∧ ¬ 0 < vars.length) := by omega
      clear hgo
      by_cases ht1 : t = 1
      · subst ht1
        have HN := hide (num_rd B wr.heap.size 10 numsL a len cap q (wr.alloc (.cells #[.int .i64 0, .int .i64 1, .int .i64 2, .int .i64 3, .int .i64 5, .int .i64 7, .int .i64 (-1), .int .i64 (-4), .int .i64 100, .int .i64 99999999999999999] 3)) ((unhide HGR).rd.kept ((below_one _ _).mono (unhide HGR).hB)) (by omega) (by have := (unhide HGR).hB; omega) (by decide) (by decide) (nums_new wr numsL _ rfl))
        rcases hex with hex | ⟨hex, hex2⟩
        all_goals
          go_wp2_with fail
          refine (unhide HN).mono ?_
          rintro r w2 ⟨z, hz, rfl, hk2, hs2⟩
          have HK2 := hide (((unhide hRW).alloc (unhide HBW) (.cells #[.int .i64 0, .int .i64 1, .int .i64 2, .int .i64 3, .int .i64 5, .int .i64 7, .int .i64 (-1), .int .i64 (-4), .int .i64 100, .int .i64 99999999999999999] 3)).trans hk2)
          have HB2 := hide (((unhide HBR).old (.cells #[.int .i64 0, .int .i64 1, .int .i64 2, .int .i64 3, .int .i64 5, .int .i64 7, .int .i64 (-1), .int .i64 (-4), .int .i64 100, .int .i64 99999999999999999] 3) hMr).ofb (hk2.mv.2 w.heap.size (by simp; omega) (by have := unhide HBW; omega)))
          have HM2 : Hid (w.heap.size < w2.heap.size) := hide (by rw [hs2]; simp; omega)
          clear hk2 hs2 hz
          go_wp2_with fail
          refine (l22NumE_any z w2).mono ?_
          rintro r w3 ⟨rfl, hb3⟩
          have HB3 := hide ((unhide HB2).below hb3 (unhide HM2))
          have HK3 := hide ((unhide HK2).below (unhide HBW) hb3)
          have q0 := (unhide HB3).cellAt (i := 0) rfl
          have q1 := (unhide HB3).cellAt (i := 1) rfl
          have q2 := (unhide HB3).cellAt (i := 2) rfl
          have q3 := (unhide HB3).cellAt (i := 3) rfl
          have q4 := (unhide HB3).cellAt (i := 4) rfl
          have f0 := (unhide HB3).2 0
          have f1 := (unhide HB3).2 1
          have f2 := (unhide HB3).2 2
          have f3 := (unhide HB3).2 3
          have f4 := (unhide HB3).2 4
          clear hb3
          go_wp2
          have hn := (((((((((((unhide HB3)).set 0 (.int .i64 1) (by simp))).set 1 (.int .i64 z) (by simp))).set 2 (.string ⟨#[]⟩) (by simp))).set 3 (.string ⟨#[]⟩) (by simp))).set 4 (.slice none 0 0) (by simp))
          have hK := (((((((((((unhide HK3)).set (unhide HBW) w.heap.size 0 (.int .i64 1) (by omega))).set (unhide HBW) w.heap.size 1 (.int .i64 z) (by omega))).set (unhide HBW) w.heap.size 2 (.string ⟨#[]⟩) (by omega))).set (unhide HBW) w.heap.size 3 (.string ⟨#[]⟩) (by omega))).set (unhide HBW) w.heap.size 4 (.slice none 0 0) (by omega))
          obtain ⟨FW, hF⟩ : ∃ FW, FW = (((((w3.setCell ⟨w.heap.size, 0, none⟩ (.int .i64 1)).setCell ⟨w.heap.size, 1, none⟩ (.int .i64 z)).setCell ⟨w.heap.size, 2, none⟩ (.string ⟨#[]⟩)).setCell ⟨w.heap.size, 3, none⟩ (.string ⟨#[]⟩)).setCell ⟨w.heap.size, 4, none⟩ (.slice none 0 0)) := ⟨_, rfl⟩
          rw [← hF] at hn hK ⊢
          have g0 := hn.cellAt (i := 0) rfl
          have g1 := hn.cellAt (i := 1) rfl
          have g2 := hn.cellAt (i := 2) rfl
          have g3 := hn.cellAt (i := 3) rfl
          have g4 := hn.cellAt (i := 4) rfl
          refine bodyPost_ret (v := .agg #[.int .i64 1, .int .i64 z, .string ⟨#[]⟩, .string ⟨#[]⟩, .slice none 0 0]) (by simp [results, Tryz.results55, go_sem, g0, g1, g2, g3, g4]) rfl ?_
          exact ⟨_, .node 1 z ⟨#[]⟩ ⟨#[]⟩ [], _, rfl, keepE_leaf (Nat.zero_le _) (Nat.zero_le _), by simp [TE.wt, wtL, emp_size], hK.more (by omega)⟩
      by_cases ht2 : t = 2
      · subst ht2
        have HN := hide (pick_rd B a len cap q 2 wr (unhide HGR).rd (by omega) (by omega))
        rcases hex with hex | ⟨hex, hex2⟩
        all_goals
          go_wp2_with fail
          refine (unhide HN).mono ?_
          rintro r w2 ⟨z, rfl, z0, z1, hk2, hs2⟩
          have HK3 := hide ((unhide hRW).trans hk2)
          have HB3 := hide ((unhide HBR).ofb (hk2.mv.2 w.heap.size hMr (by have := unhide HBW; omega)))
          have q0 := (unhide HB3).cellAt (i := 0) rfl
          have q1 := (unhide HB3).cellAt (i := 1) rfl
          have q2 := (unhide HB3).cellAt (i := 2) rfl
          have q3 := (unhide HB3).cellAt (i := 3) rfl
          have q4 := (unhide HB3).cellAt (i := 4) rfl
          have f0 := (unhide HB3).2 0
          have f1 := (unhide HB3).2 1
          have f2 := (unhide HB3).2 2
          have f3 := (unhide HB3).2 3
          have f4 := (unhide HB3).2 4
          clear hk2 hs2
          go_wp2
          have hn := (((((((((((unhide HB3)).set 0 (.int .i64 2) (by simp))).set 1 (.int .i64 z) (by simp))).set 2 (.string ⟨#[]⟩) (by simp))).set 3 (.string ⟨#[]⟩) (by simp))).set 4 (.slice none 0 0) (by simp))
          have hK := (((((((((((unhide HK3)).set (unhide HBW) w.heap.size 0 (.int .i64 2) (by omega))).set (unhide HBW) w.heap.size 1 (.int .i64 z) (by omega))).set (unhide HBW) w.heap.size 2 (.string ⟨#[]⟩) (by omega))).set (unhide HBW) w.heap.size 3 (.string ⟨#[]⟩) (by omega))).set (unhide HBW) w.heap.size 4 (.slice none 0 0) (by omega))
          obtain ⟨FW, hF⟩ : ∃ FW, FW = (((((w2.setCell ⟨w.heap.size, 0, none⟩ (.int .i64 2)).setCell ⟨w.heap.size, 1, none⟩ (.int .i64 z)).setCell ⟨w.heap.size, 2, none⟩ (.string ⟨#[]⟩)).setCell ⟨w.heap.size, 3, none⟩ (.string ⟨#[]⟩)).setCell ⟨w.heap.size, 4, none⟩ (.slice none 0 0)) := ⟨_, rfl⟩
          rw [← hF] at hn hK ⊢
          have g0 := hn.cellAt (i := 0) rfl
          have g1 := hn.cellAt (i := 1) rfl
          have g2 := hn.cellAt (i := 2) rfl
          have g3 := hn.cellAt (i := 3) rfl
          have g4 := hn.cellAt (i := 4) rfl
          refine bodyPost_ret (v := .agg #[.int .i64 2, .int .i64 z, .string ⟨#[]⟩, .string ⟨#[]⟩, .slice none 0 0]) (by simp [results, Tryz.results55, go_sem, g0, g1, g2, g3, g4]) rfl ?_
          exact ⟨_, .node 2 z ⟨#[]⟩ ⟨#[]⟩ [], _, rfl, keepE_leaf (Nat.zero_le _) (Nat.zero_le _), by simp [TE.wt, wtL, emp_size], hK.more (by omega)⟩
      have z1 : (t == 1) = false := by simpa using ht1
      have z2 : (t == 2) = false := by simpa using ht2
      have HN := hide (pick_rd B a len cap q 4 (wr.alloc (.cells #[.int .i64 8, .int .i64 0, .string ⟨#[]⟩, .string ⟨#[]⟩, .slice none 0 0] 31)) ((unhide HGR).rd.kept ((below_one _ _).mono (unhide HGR).hB)) (by omega) (by omega))
      have HW1 : Hid (W1.heap.size ≤ wr.heap.size) := hide (unhide HR).size
      have HRE := hide ((unhide HR).alloc (unhide HG).hB (.cells #[.int .i64 8, .int .i64 0, .string ⟨#[]⟩, .string ⟨#[]⟩, .slice none 0 0] 31))
      have HBE := hide (Blk.new wr [.int .i64 8, .int .i64 0, .string ⟨#[]⟩, .string ⟨#[]⟩, .slice none 0 0] 31)
      obtain ⟨E, hE⟩ : ∃ E, wr.heap.size = E := ⟨_, rfl⟩
      have HEe := hide hE
      have hME : w.heap.size < E := by omega
      have hGE : G < E := by omega
      rcases hex with hex | ⟨hex, hex2⟩
      all_goals
        go_wp2_with fail
        refine (unhide HN).mono ?_
        rintro r w2 ⟨i, rfl, i0, i1, hk2, hs2⟩
        have i2 := i1 (by omega)
        obtain ⟨ki, rfl⟩ := Int.eq_ofNat_of_zero_le i0
        have HR2 := hide ((unhide HRE).trans hk2)
        rw [hE] at HBE
        have hs2' : w2.heap.size = E + 1 := by rw [hs2, alloc_size, hE]
        have HB2 := hide ((unhide HBE).ofb (hk2.mv.2 E (by rw [alloc_size]; omega) (by have := (unhide HG).hB; have := unhide HS1; omega)))
        have HO2 := hide ((OwnD.nil (EltE 1) 5 31 (fun b => E + 1 ≤ b) (E + 1) w2))
        have HS2 : Hid (E + 1 ≤ w2.heap.size) := hide (by omega)
        clear hk2 hs2 hs2' HBE HRE HR HBR hRW c0 HGR hGr hMr i1 hE HN
        go_wp2
        go_loopw [12] (fun v wq => ∃ (k2 q2 : Nat) (ps : List (TE × List Value)) (sa2 : Option Addr) (sc2 : Nat), v = .int .i64 k2 ∧ ps.length + k2 ≤ 3 ∧ Hid (RdM B a len cap (4 + ps.length) W1 wq p q2) ∧ Hid (Blk wq E [.int .i64 8, .int .i64 0, .string ⟨#[]⟩, .string ⟨#[]⟩, .slice sa2 ps.length sc2]) ∧ Hid (OwnD (EltE 1) 5 31 (fun b => E + 1 ≤ b) (E + 1) wq (.slice sa2 ps.length sc2) ps) ∧ Hid (E + 1 ≤ wq.heap.size) ∧ Hid (∀ x ∈ ps, x.1.wt ≤ 0)) (fun v _ => (intOf v).toNat)
        case atStart => exact ⟨ki, _, [], none, 0, rfl, by simp; omega, hide ((unhide HR2).more (by simp; omega)), HB2, HO2, HS2, hide (fun x hx => absurd hx List.not_mem_nil)⟩
        case round =>
          clear HR2 HB2 HO2 HS2 i2 i0
          obtain ⟨k2, q2, ps, sa2, sc2, rfl, hk2, HR3, HB3, HO3, HS3, HWT⟩ := hrel
          have hq2 : q2 ≤ p + 7 := by have := (unhide HR3).le; omega
          have c0 := ((unhide HG).step (unhide HR3)).c0
          have e0 := (unhide HB3).cellAt (i := 0) rfl
          have e1 := (unhide HB3).cellAt (i := 1) rfl
          have e2 := (unhide HB3).cellAt (i := 2) rfl
          have e3 := (unhide HB3).cellAt (i := 3) rfl
          have e4 := (unhide HB3).cellAt (i := 4) rfl
          by_cases hp2 : 0 < k2
          · have HPK := hide (pick_rd B a len cap q2 10 wr.drew ((unhide HR3).drew).rd (by omega) (by omega))
            clear e0 e1 e2 e3
            go_wp2
            go_region_law (first
              | (refine step_runD rfl (.tmp 80) (.tmp 87) 25 rfl rfl (.slice sa2 ps.length sc2) (.slice (some ⟨w4.heap.size, 0, none⟩) 1 1) rfl rfl (.slice (some ⟨g5, 0, none⟩) (ps.length + 1) c5) w5 (by exact r5) ?_)
              | (go_simp; refine (unhide HPK).mono ?_; rintro r w3 ⟨z, rfl, z0, z1, hk3, hs3⟩; have HR4 := hide (((unhide HR3).drew).trans hk3); have HO4 := hide ((show OwnD (EltE 1) 5 31 (fun b => E + 1 ≤ b) (E + 1) wr.drew (.slice sa2 ps.length sc2) ps from (unhide HO3).stay (StayD.refl _ wr).drew (fun _ h => h)).stay (hk3.mv.stay (fun b h => by have := (unhide HG).hB; have := unhide HW1; have := unhide HEe; omega)) (fun _ h => h)); have HB4 := hide ((show Blk wr.drew E _ from unhide HB3).ofb (hk3.mv.2 E (by have := unhide HS3; show E < wr.heap.size; omega) (by have := (unhide HG).hB; have := unhide HW1; have := unhide HEe; omega))); have HS4 : Hid (E + 1 ≤ w3.heap.size) := hide (by rw [hs3]; exact unhide HS3); have e4' := (unhide HB4).cellAt (i := 4) rfl; clear hk3 hs3)
              | (go_simp; refine (l22NumE_any _ w3).mono ?_; rintro r w4 ⟨rfl, hb4⟩; obtain ⟨g5, c5, w5, r5, o5, b5, k5, s5, _⟩ := kidsPush ((unhide HO4).stay (StayD.below hb4) (fun _ h => h)) (by have := unhide HS4; have := hb4.size; omega) (Nat.lt_succ_self E) ((unhide HB4).below hb4 (unhide HS4)) ((unhide HR4).below (unhide HG).hB hb4) (unhide HG).hB (by have := unhide HW1; have := unhide HEe; omega) (by omega) 1 z ⟨#[]⟩ ⟨#[]⟩ none 0 0 (.node 1 z ⟨#[]⟩ ⟨#[]⟩ []) (keepE_leaf (Nat.zero_le _) (Nat.zero_le _)); have e4'' := ((unhide HB4).below hb4 (unhide HS4)).cellAt (i := 4) rfl; have q4 := b5.cellAt (i := 4) rfl; have f4 := b5.2 4; have HB5 := hide b5; have HK5 := hide k5; have HO5 := hide o5; have HS5 := hide s5; have HEL : Hid (E < w4.heap.size) := hide (Nat.lt_of_lt_of_le (unhide HS4) hb4.size); have hEl : E < w4.heap.size := unhide HEL; clear hb4 b5 k5 o5 s5))
            all_goals
              go_wp2
              go_roundw
              case rel =>
                exact ⟨k2 - 1, _, ps ++ [(TE.node 1 z ⟨#[]⟩ ⟨#[]⟩ [], [.int .i64 1, .int .i64 z, .string ⟨#[]⟩, .string ⟨#[]⟩, .slice none 0 0])], _, _, by go_num, by simp; omega, hide (by simpa using ((unhide HK5).set (unhide HG).hB E 4 (.slice (some ⟨g5, 0, none⟩) (ps.length + 1) c5) (by have := unhide HW1; have := unhide HEe; omega)).more (by omega)), hide (by simpa using (unhide HB5).set 4 (.slice (some ⟨g5, 0, none⟩) (ps.length + 1) c5) (by simp)), hide (by simpa using (unhide HO5).stay ((StayD.refl _ _).set E 4 _ (fun _ h => by omega)) (fun _ h => h)), hide (by simpa [World.setCell] using unhide HS5), hide (fun x hx => by rcases List.mem_append.1 hx with hx | hx; exact unhide HWT x hx; rw [List.mem_singleton] at hx; subst hx; simp [TE.wt, wtL, emp_size])⟩
              case measure => simp [intOf]; omega
          · have hk0 : k2 = 0 := by omega
            subst hk0
            have HBM := hide ((unhide HBK).ofb ((unhide HR3).mv.2 w.heap.size hM (by have := unhide HBW; omega)))
            have q0 := (unhide HBM).cellAt (i := 0) rfl
            have q1 := (unhide HBM).cellAt (i := 1) rfl
            have q2' := (unhide HBM).cellAt (i := 2) rfl
            have q3 := (unhide HBM).cellAt (i := 3) rfl
            have q4 := (unhide HBM).cellAt (i := 4) rfl
            have f0 := (unhide HBM).2 0
            have f1 := (unhide HBM).2 1
            have f2 := (unhide HBM).2 2
            have f3 := (unhide HBM).2 3
            have f4 := (unhide HBM).2 4
            go_wp2
            have hst := ((((((StayD.refl (fun b => E + 1 ≤ b) wr).set w.heap.size 0 (.int .i64 8) (fun _ h => by (try dsimp only at h); omega)).set w.heap.size 1 (.int .i64 0) (fun _ h => by (try dsimp only at h); omega)).set w.heap.size 2 (.string ⟨#[]⟩) (fun _ h => by (try dsimp only at h); omega)).set w.heap.size 3 (.string ⟨#[]⟩) (fun _ h => by (try dsimp only at h); omega)).set w.heap.size 4 (.slice sa2 ps.length sc2) (fun _ h => by (try dsimp only at h); omega))
            have hn := (((((((((((unhide HBM)).set 0 (.int .i64 8) (by simp))).set 1 (.int .i64 0) (by simp))).set 2 (.string ⟨#[]⟩) (by simp))).set 3 (.string ⟨#[]⟩) (by simp))).set 4 (.slice sa2 ps.length sc2) (by simp))
            have hK := ((((((((((((unhide HR0).trans (unhide HR3))).set (unhide HBW) w.heap.size 0 (.int .i64 8) (by omega))).set (unhide HBW) w.heap.size 1 (.int .i64 0) (by omega))).set (unhide HBW) w.heap.size 2 (.string ⟨#[]⟩) (by omega))).set (unhide HBW) w.heap.size 3 (.string ⟨#[]⟩) (by omega))).set (unhide HBW) w.heap.size 4 (.slice sa2 ps.length sc2) (by omega))
            obtain ⟨FW, hF⟩ : ∃ FW, FW = (((((wr.setCell ⟨w.heap.size, 0, none⟩ (.int .i64 8)).setCell ⟨w.heap.size, 1, none⟩ (.int .i64 0)).setCell ⟨w.heap.size, 2, none⟩ (.string ⟨#[]⟩)).setCell ⟨w.heap.size, 3, none⟩ (.string ⟨#[]⟩)).setCell ⟨w.heap.size, 4, none⟩ (.slice sa2 ps.length sc2)) := ⟨_, rfl⟩
            rw [← hF] at hst hn hK ⊢
            have g0 := hn.cellAt (i := 0) rfl
            have g1 := hn.cellAt (i := 1) rfl
            have g2 := hn.cellAt (i := 2) rfl
            have g3 := hn.cellAt (i := 3) rfl
            have g4 := hn.cellAt (i := 4) rfl
            refine bodyPost_ret (v := .agg #[.int .i64 8, .int .i64 0, .string ⟨#[]⟩, .string ⟨#[]⟩, .slice sa2 ps.length sc2]) (by simp [results, Tryz.results55, go_sem, g0, g1, g2, g3, g4]) rfl ?_
            exact ⟨_, .node 8 0 ⟨#[]⟩ ⟨#[]⟩ (ps.map Prod.fst), _, rfl, (keepE_node ((((unhide HO3).stay hst (fun _ h => h)).reads (fun _ h => h)).imp (fun W hW => hW.kids)) (by simp) (by omega) (Nat.zero_le _) (Nat.zero_le _)).less (fun b _ h => by omega), by have := wtL_map (unhide HWT); simp only [TE.wt, emp_size, List.length_map]; omega, hK.more (by omega)⟩
end Go.Proofs.YtffabnmgcicpiaaGreat
