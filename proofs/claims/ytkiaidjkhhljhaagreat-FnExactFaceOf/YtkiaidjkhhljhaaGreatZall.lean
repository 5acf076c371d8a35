/- Worlds that keep what was there, and in which nothing new is shut against writing. No conditions. The walks of toTreeExpr and toTreeExprS once more: the copy may be written. Conditions: the tree can be read, and weighs at most 2^20. The walks of toTreeArg and toTreeArgS once more: the copy may be written. Conditions: the row can be read. The walks of toTreeFunS and toTreeFun once more: the copy may be written. Conditions: the row can be read. The walks of toStringS and toTreeMod once more: the copy may be written. Conditions: the module can be read. -/
import Derived.Test.YtkiaidjkhhljhaaGreatFa
namespace Go.Proofs.YtkiaidjkhhljhaaGreat
open Go.RowKit Go.PlainAid

/-- 'Below', and what may be written may still be; what is new may be written. -/
structure Bf (B : Nat) (w w' : World) : Prop extends Below B w w' where
  fz : ∀ b j, b < w.heap.size → w'.frozen? ⟨b, j, none⟩ = w.frozen? ⟨b, j, none⟩
  fr : ∀ b j, w.heap.size ≤ b → w'.frozen? ⟨b, j, none⟩ = false
theorem frozen_out (w : World) (b j : Nat) (h : w.heap.size ≤ b) : w.frozen? ⟨b, j, none⟩ = false := by
  unfold World.frozen?
  rw [show w.heap[(⟨b, j, none⟩ : Addr).block]? = none from Array.getElem?_eq_none h]
theorem Bf.refl (B : Nat) (w : World) : Bf B w w := ⟨Below.refl B w, fun _ _ _ => rfl, fun b j h => frozen_out w b j h⟩
theorem Bf.trans {B : Nat} {a b c : World} (h : Bf B a b) (k : Bf B b c) : Bf B a c := by
  refine ⟨h.toBelow.trans k.toBelow, fun x j hx => ?_, fun x j hx => ?_⟩
  · have := h.size
    exact (k.fz x j (by omega)).trans (h.fz x j hx)
  · by_cases e : x < b.heap.size
    · exact (k.fz x j e).trans (h.fr x j hx)
    · exact k.fr x j (by omega)
theorem Bf.mono {B B' : Nat} {w w' : World} (h : Bf B w w') (hB : B' ≤ B) : Bf B' w w' := ⟨h.toBelow.mono hB, h.fz, h.fr⟩
theorem Bf.drew {B : Nat} {a w : World} (h : Bf B a w) : Bf B a w.drew := ⟨h.toBelow.drew, h.fz, h.fr⟩
theorem frozen_alloc (w : World) (C : Array Value) (t : TypeId) (p : Addr) : (w.alloc (.cells C t)).frozen? p = w.frozen? p := frozen?_alloc_cells w C t p
theorem Bf.alloc {B : Nat} {a w : World} (h : Bf B a w) (hB : B ≤ w.heap.size) (o : Obj) (ho : ∃ C t, o = .cells C t := by exact ⟨_, _, rfl⟩) : Bf B a (w.alloc o) := by
  obtain ⟨C, t, rfl⟩ := ho
  exact ⟨h.toBelow.alloc hB _, fun b j hb => (frozen_alloc _ _ _ _).trans (h.fz b j hb), fun b j hb => (frozen_alloc _ _ _ _).trans (h.fr b j hb)⟩
theorem Bf.setCell {B : Nat} {a w : World} (h : Bf B a w) {p : Addr} (hp : B ≤ p.block) (u : Value) : Bf B a (w.setCell p u) :=
  ⟨h.toBelow.setCell hp u, fun b j hb => (World.frozen?_setCell ..).trans (h.fz b j hb), fun b j hb => (World.frozen?_setCell ..).trans (h.fr b j hb)⟩
end Go.Proofs.YtkiaidjkhhljhaaGreat

namespace Go.Proofs.YtkiaidjkhhljhaaGreat
open Go.RowKit Go.PlainAid

theorem put5_belowZ (w : World) (B o : Nat) (x0 x1 x2 x3 x4 : Value) {n : Nat} (h : n ≤ B) : Bf n w (put5 w B o x0 x1 x2 x3 x4) :=
  (((((Bf.refl n w).setCell (p := ⟨B, o, none⟩) h _).setCell (p := ⟨B, o + 1, none⟩) h _).setCell (p := ⟨B, o + 2, none⟩) h _).setCell (p := ⟨B, o + 3, none⟩) h _).setCell (p := ⟨B, o + 4, none⟩) h _
/-- The contract of toTreeExpr for trees at most h deep: a copy in new memory. -/
def ToEZ (lo h : Nat) : Prop := ∀ (v : Value) (e : TE) (w : World), IsE w lo w.heap.size h v e → e.wt ≤ 1048576 →
  Calls Tryz.prog 89 #[v] w fun r w' => ∃ c0 c1 c2 c3 c4 : Value, r = .returned (.agg #[c0, c1, c2, c3, c4]) ∧ IsE w' w.heap.size w'.heap.size h (.agg #[c0, c1, c2, c3, c4]) e ∧ Bf w.heap.size w w'
theorem Copied.nextZ {w w2 : World} {B h k : Nat} {kids : List TE} {x0 x1 x2 x3 x4 : Value} (hp : k < kids.length) (hD : Copied w B h k kids) (hz : B < w.heap.size) (hb2 : Bf w.heap.size w w2)
    (hc : ∀ j, j < kids.length * 5 → ∃ v, w2.cell? ⟨B, j, none⟩ = some v) (hE : IsE w2 w.heap.size w2.heap.size h (.agg #[x0, x1, x2, x3, x4]) (kids[k]'hp)) : Copied (put5 w2 B (k * 5) x0 x1 x2 x3 x4) B h (k + 1) kids := by
  intro j hj hjk
  have hs2 : Same (B + 1) w2.heap.size w2 (put5 w2 B (k * 5) x0 x1 x2 x3 x4) := fun b h1 h2 => put5_heap _ _ _ _ _ _ _ _ b (by omega)
  have hsz := put5_size w2 B (k * 5) x0 x1 x2 x3 x4
  by_cases e : j = k
  · subst e
    obtain ⟨a0, a1, a2, a3, a4⟩ := put5_at w2 B (j * 5) x0 x1 x2 x3 x4 (fun i h1 h2 => hc i (by omega))
    exact ⟨x0, x1, x2, x3, x4, a0, a1, a2, a3, a4, IsE.same (fun b h1 h2 => hs2 b (by omega) h2) (by omega) (by omega) h _ _ hE⟩
  · obtain ⟨c0, c1, c2, c3, c4, d0, d1, d2, d3, d4, hr⟩ := hD j hj (by omega)
    have hcc : ∀ i, i < k * 5 → (put5 w2 B (k * 5) x0 x1 x2 x3 x4).cell? ⟨B, i, none⟩ = w.cell? ⟨B, i, none⟩ := fun i hi =>
      (put5_other w2 B (k * 5) x0 x1 x2 x3 x4 i (by omega)).trans (hb2.cell (p := ⟨B, i, none⟩) hz)
    refine ⟨c0, c1, c2, c3, c4, (hcc _ (by omega)).trans d0, (hcc _ (by omega)).trans d1, (hcc _ (by omega)).trans d2, (hcc _ (by omega)).trans d3, (hcc _ (by omega)).trans d4, IsE.same (fun b h1 h2 => ?_) (Nat.le_refl _) (by have := hb2.size; omega) h _ _ hr⟩
    exact (hs2 b h1 (by have := hb2.size; omega)).trans (hb2.block b h2)

set_option maxHeartbeats 1000000 in
theorem toTreeExprS_ofZ (lo h : Nat) (H : ToEZ lo h) (a : Option Addr) (cap : Nat) (kids : List TE) (w : World) (hk : IsKids (IsE w lo w.heap.size h) w lo w.heap.size a kids) (ht : kids.length + wtL kids ≤ 1048576) :
    Calls Tryz.prog 52 #[.slice a kids.length cap] w fun r w' => ∃ (a' : Option Addr) (cap' : Nat), r = .returned (.slice a' kids.length cap') ∧ IsKids (IsE w' w.heap.size w'.heap.size h) w' w.heap.size w'.heap.size a' kids ∧ Bf w.heap.size w w' := by
  obtain ⟨M, hM, hmk⟩ := make_exprs kids.length (by omega)
  have HK := hide hk
  have HH := hide H
  have HT := hide ht
  have HM := hide hM
  have hl : kids.length ≤ 1048576 := by omega
  clear hk H ht hM
  go_enter Tryz.func52, Tryz.ntmps52
  go_wp2
  clear hmk
  go_loopw [4] (fun i wr => ∃ k : Nat, k ≤ kids.length ∧ i = .int .i64 k ∧ Hid (Bf w.heap.size w wr) ∧ Hid (w.heap.size < wr.heap.size) ∧ Hid (Copied wr w.heap.size h k kids) ∧ Hid (∀ j, j < kids.length * 5 → ∃ v, wr.cell? ⟨w.heap.size, j, none⟩ = some v) ∧ Hid (∀ j, wr.frozen? ⟨w.heap.size, j, none⟩ = false)) (fun i _ => kids.length - (intOf i).toNat)
  case atStart =>
    refine ⟨0, Nat.zero_le _, rfl, hide ((Bf.refl _ w).alloc (Nat.le_refl _) _), hide (by simp), hide (fun j _ hj => absurd hj (Nat.not_lt_zero _)), hide (fun j hj => ?_), hide (fun j => by simp)⟩
    rw [World.cell?_alloc_new]
    have : j < M.size := by rw [unhide HM]; exact hj
    exact ⟨_, Array.getElem?_eq_getElem this⟩
  case round =>
    obtain ⟨k, hk, rfl, HB, HZ, HD, HC, HF⟩ := hrel
    by_cases hp : k < kids.length
    · rcases (unhide HK).kept (unhide HB).toBelow (unhide HB).size with hq | ⟨b, off, rfl, hbl, hbn, hcs⟩
      · rw [hq] at hp; simp at hp
      obtain ⟨c0, c1, c2, c3, c4, d0, d1, d2, d3, d4, hr⟩ := hcs k hp
      have hs1 := wt_step kids k hp
      have hs3 := wt_le kids (k + 1)
      obtain ⟨e, he⟩ : ∃ e, kids[k] = e := ⟨_, rfl⟩
      rw [he] at hr hs1
      have hew : e.wt ≤ 1048576 := by have := unhide HT; omega
      have HR := hide hr
      have HE := hide he
      clear hcs hr hs1 hs3 he
      go_wp2_with fail
      refine (unhide HH _ e wr (unhide HR) hew).mono ?_
      rintro r w2 ⟨x0, x1, x2, x3, x4, rfl, hE2, hb2⟩
      obtain ⟨xk, xm, xn, xd, xa, xl, xc, rfl, rfl, rfl, rfl, rfl⟩ := hE2.form5
      have hz := unhide HZ
      have hcc : ∀ j, j < kids.length * 5 → ∃ v, w2.cell? ⟨w.heap.size, j, none⟩ = some v := fun j hj => by
        obtain ⟨v, hv⟩ := unhide HC j hj
        exact ⟨v, (hb2.cell (p := ⟨w.heap.size, j, none⟩) hz).trans hv⟩
      have hff : ∀ j, w2.frozen? ⟨w.heap.size, j, none⟩ = false := fun j => (hb2.frozen (p := ⟨w.heap.size, j, none⟩) hz).trans (unhide HF j)
      obtain ⟨y0, q0⟩ := hcc (k * 5) (by omega)
      obtain ⟨y1, q1⟩ := hcc (k * 5 + 1) (by omega)
      obtain ⟨y2, q2⟩ := hcc (k * 5 + 2) (by omega)
      obtain ⟨y3, q3⟩ := hcc (k * 5 + 3) (by omega)
      obtain ⟨y4, q4⟩ := hcc (k * 5 + 4) (by omega)
      have f0 := hff (k * 5)
      have f1 := hff (k * 5 + 1)
      have f2 := hff (k * 5 + 2)
      have f3 := hff (k * 5 + 3)
      have f4 := hff (k * 5 + 4)
      have HC2 := hide hcc
      have HF2 := hide hff
      have HE2 := hide hE2
      have HB2 := hide hb2
      clear hcc hff hE2 hb2 hz d0 d1 d2 d3 d4
      have HN : Hid (Copied (put5 w2 w.heap.size (k * 5) (.int .i64 xk) (.int .i64 xm) (.string xn) (.string xd) (.slice xa xl xc)) w.heap.size h (k + 1) kids) := hide (Copied.nextZ hp (unhide HD) (unhide HZ) (unhide HB2) (unhide HC2) (by rw [unhide HE]; exact unhide HE2))
      have HB3 := hide (((unhide HB).trans ((unhide HB2).mono (unhide HB).size)).trans (put5_belowZ w2 w.heap.size (k * 5) (.int .i64 xk) (.int .i64 xm) (.string xn) (.string xd) (.slice xa xl xc) (Nat.le_refl _)))
      have HZ3 : Hid (w.heap.size < (put5 w2 w.heap.size (k * 5) (.int .i64 xk) (.int .i64 xm) (.string xn) (.string xd) (.slice xa xl xc)).heap.size) := hide (by rw [put5_size]; have := (unhide HB2).size; have := unhide HZ; omega)
      have HF3 : Hid (∀ j, (put5 w2 w.heap.size (k * 5) (.int .i64 xk) (.int .i64 xm) (.string xn) (.string xd) (.slice xa xl xc)).frozen? ⟨w.heap.size, j, none⟩ = false) := hide (fun j => by rw [put5_frozen]; exact unhide HF2 j)
      have HC3 : Hid (∀ j, j < kids.length * 5 → ∃ v, (put5 w2 w.heap.size (k * 5) (.int .i64 xk) (.int .i64 xm) (.string xn) (.string xd) (.slice xa xl xc)).cell? ⟨w.heap.size, j, none⟩ = some v) := hide (fun j hj => by
        by_cases ho : j < k * 5 ∨ k * 5 + 5 ≤ j
        · rw [put5_other _ _ _ _ _ _ _ _ _ ho]; exact unhide HC2 j hj
        · obtain ⟨a0, a1, a2, a3, a4⟩ := put5_at w2 w.heap.size (k * 5) (.int .i64 xk) (.int .i64 xm) (.string xn) (.string xd) (.slice xa xl xc) (fun i h1 h2 => unhide HC2 i (by omega))
          have hj5 : j = k * 5 ∨ j = k * 5 + 1 ∨ j = k * 5 + 2 ∨ j = k * 5 + 3 ∨ j = k * 5 + 4 := by omega
          rcases hj5 with rfl | rfl | rfl | rfl | rfl
          · exact ⟨_, a0⟩
          · exact ⟨_, a1⟩
          · exact ⟨_, a2⟩
          · exact ⟨_, a3⟩
          · exact ⟨_, a4⟩)
      clear HD HC HF HB HZ HE2 HR
      go_wp2
      go_roundw
      case rel => exact ⟨k + 1, by omega, by go_num, HB3, HZ3, HN, HC3, HF3⟩
      case measure => simp [intOf] <;> omega
    · go_wp2
      go_ret
      refine ⟨_, _, rfl, .inr ⟨w.heap.size, 0, rfl, Nat.le_refl _, unhide HZ, fun j hj => ?_⟩, unhide HB⟩
      obtain ⟨c0, c1, c2, c3, c4, d0, d1, d2, d3, d4, hr⟩ := unhide HD j hj (by omega)
      refine ⟨c0, c1, c2, c3, c4, ?_, ?_, ?_, ?_, ?_, IsE.same (fun b h1 h2 => rfl) (by omega) (Nat.le_refl _) h _ _ hr⟩
      · rw [Nat.zero_add]; exact d0
      · rw [Nat.zero_add]; exact d1
      · rw [Nat.zero_add]; exact d2
      · rw [Nat.zero_add]; exact d3
      · rw [Nat.zero_add]; exact d4
set_option maxHeartbeats 1000000 in
theorem toTreeExpr_anyZ (lo : Nat) : ∀ h, ToEZ lo h := by
  intro h
  induction h with
  | zero => intro v e w hE; exact hE.elim
  | succ h ih =>
    intro v e w hE ht
    obtain ⟨kd, m, nm, md, kids⟩ := e
    obtain ⟨a, cap, rfl, hs, hk⟩ := hE
    rw [TE.wt] at ht
    have HS := hide (fun (w' : World) (hb : Bf w.heap.size w w') => toTreeExprS_ofZ lo h ih a cap kids w' (hk.kept hb.toBelow hb.size) (by omega))
    have HZ := hide hs
    clear hk ih ht hs
    go_enter Tryz.func89, Tryz.ntmps89
    go_wp2_with fail
    refine (unhide HS _ ((((Bf.refl _ w).alloc (Nat.le_refl _) _).alloc (by simp) _).alloc (by simp; omega) _)).mono ?_
    rintro r w2 ⟨a', cap', rfl, hk2, hb2⟩
    have hB : Bf w.heap.size w w2 := (((((Bf.refl _ w).alloc (Nat.le_refl _) _).alloc (by simp) _).alloc (by simp; omega) _)).trans (hb2.mono (by simp; omega))
    have hsz : w.heap.size + 3 ≤ w2.heap.size := by have := hb2.size; simpa using this
    have h3 : ∀ i, w2.cell? ⟨w.heap.size + 1 + 1, i, none⟩ = (#[Value.int .i64 kd, .int .i64 m, .string nm, .string md, .slice none 0 0] : Array Value)[i]? ∧ w2.frozen? ⟨w.heap.size + 1 + 1, i, none⟩ = false := fun i =>
      ⟨(hb2.cell (p := ⟨w.heap.size + 1 + 1, i, none⟩) (by rw [alloc_size, alloc_size, alloc_size]; exact Nat.lt_succ_self _)).trans (third _ _ _ _ _ _).1, (hb2.frozen (p := ⟨w.heap.size + 1 + 1, i, none⟩) (by rw [alloc_size, alloc_size, alloc_size]; exact Nat.lt_succ_self _)).trans (third _ _ _ _ _ _).2⟩
    have h2 : ∀ i, w2.cell? ⟨w.heap.size + 1, i, none⟩ = (#[Value.int .i64 0, .int .i64 0, .string ⟨#[]⟩, .string ⟨#[]⟩, .slice none 0 0] : Array Value)[i]? ∧ w2.frozen? ⟨w.heap.size + 1, i, none⟩ = false := fun i =>
      ⟨(hb2.cell (p := ⟨w.heap.size + 1, i, none⟩) (by rw [alloc_size, alloc_size, alloc_size]; exact Nat.lt_succ_of_lt (Nat.lt_succ_self _))).trans (second _ _ _ _ _ _).1, (hb2.frozen (p := ⟨w.heap.size + 1, i, none⟩) (by rw [alloc_size, alloc_size, alloc_size]; exact Nat.lt_succ_of_lt (Nat.lt_succ_self _))).trans (second _ _ _ _ _ _).2⟩
    have p0 : w2.cell? ⟨w.heap.size + 1 + 1, 0, none⟩ = some (.int .i64 kd) := (h3 0).1
    have p1 : w2.cell? ⟨w.heap.size + 1 + 1, 1, none⟩ = some (.int .i64 m) := (h3 1).1
    have p2 : w2.cell? ⟨w.heap.size + 1 + 1, 2, none⟩ = some (.string nm) := (h3 2).1
    have p3 : w2.cell? ⟨w.heap.size + 1 + 1, 3, none⟩ = some (.string md) := (h3 3).1
    have p4 : w2.cell? ⟨w.heap.size + 1 + 1, 4, none⟩ = some (.slice none 0 0) := (h3 4).1
    have p5 := (h3 4).2
    have r0 : w2.cell? ⟨w.heap.size + 1, 0, none⟩ = some (.int .i64 0) := (h2 0).1
    have r1 : w2.cell? ⟨w.heap.size + 1, 1, none⟩ = some (.int .i64 0) := (h2 1).1
    have r2 : w2.cell? ⟨w.heap.size + 1, 2, none⟩ = some (.string ⟨#[]⟩) := (h2 2).1
    have r3 : w2.cell? ⟨w.heap.size + 1, 3, none⟩ = some (.string ⟨#[]⟩) := (h2 3).1
    have r4 : w2.cell? ⟨w.heap.size + 1, 4, none⟩ = some (.slice none 0 0) := (h2 4).1
    have f0 := (h2 0).2
    have f1 := (h2 1).2
    have f2 := (h2 2).2
    have f3 := (h2 3).2
    have f4 := (h2 4).2
    have HB := hide hB
    have HK := hide hk2
    have HSZ := hide hsz
    have HB2 := hide hb2
    clear h3 h2 hB hk2 hsz hb2
    go_wp2
    have hcs := put5_at (w2.setCell ⟨w.heap.size + 1 + 1, 4, none⟩ (.slice a' kids.length cap')) (w.heap.size + 1) 0 (.int .i64 kd) (.int .i64 m) (.string nm) (.string md) (.slice a' kids.length cap') (fun j h1 h2 => by
      have e : (w2.setCell ⟨w.heap.size + 1 + 1, 4, none⟩ (.slice a' kids.length cap')).cell? ⟨w.heap.size + 1, j, none⟩ = w2.cell? ⟨w.heap.size + 1, j, none⟩ := World.cell?_setCell_other _ ⟨w.heap.size + 1 + 1, 4, none⟩ ⟨w.heap.size + 1, j, none⟩ _ (by simp)
      rw [e]
      have hj : j = 0 ∨ j = 1 ∨ j = 2 ∨ j = 3 ∨ j = 4 := by omega
      rcases hj with rfl | rfl | rfl | rfl | rfl
      · exact ⟨_, r0⟩
      · exact ⟨_, r1⟩
      · exact ⟨_, r2⟩
      · exact ⟨_, r3⟩
      · exact ⟨_, r4⟩)
    have hb4 : Bf w.heap.size w2 (put5 (w2.setCell ⟨w.heap.size + 1 + 1, 4, none⟩ (.slice a' kids.length cap')) (w.heap.size + 1) 0 (.int .i64 kd) (.int .i64 m) (.string nm) (.string md) (.slice a' kids.length cap')) := ((Bf.refl _ _).setCell (p := ⟨w.heap.size + 1 + 1, 4, none⟩) (by simp; omega) _).trans (put5_belowZ _ _ _ _ _ _ _ _ (by omega))
    have hs4 : Same (w.heap.size + 3) w2.heap.size w2 (put5 (w2.setCell ⟨w.heap.size + 1 + 1, 4, none⟩ (.slice a' kids.length cap')) (w.heap.size + 1) 0 (.int .i64 kd) (.int .i64 m) (.string nm) (.string md) (.slice a' kids.length cap')) := fun b h1 h2 => (put5_heap _ _ _ _ _ _ _ _ b (by omega)).trans (Below.heap_setCell _ ⟨w.heap.size + 1 + 1, 4, none⟩ _ _ (by simp; omega))
    have HCS := hide hcs
    simp only [Nat.zero_add] at hcs
    obtain ⟨e0, e1, e2, e3, e4⟩ := hcs
    refine bodyPost_ret (v := .agg #[.int .i64 kd, .int .i64 m, .string nm, .string md, .slice a' kids.length cap']) (by simp [results, Tryz.results89, go_sem, e0, e1, e2, e3, e4]) rfl ?_
    refine ⟨_, _, _, _, _, rfl, ⟨a', cap', rfl, unhide HZ, ?_⟩, (unhide HB).trans hb4⟩
    have hk3 := unhide HK
    rw [alloc_size, alloc_size, alloc_size] at hk3
    exact hk3.mono (IsE.same hs4 (by omega) hb4.size h) hs4 (by omega) hb4.size
end Go.Proofs.YtkiaidjkhhljhaaGreat

namespace Go.Proofs.YtkiaidjkhhljhaaGreat
open Go.RowKit Go.PlainAid

theorem put2_belowZ (w : World) (B o : Nat) (x0 x1 : Value) {n : Nat} (h : n ≤ B) : Bf n w (put2 w B o x0 x1) :=
  (((Bf.refl n w).setCell (p := ⟨B, o, none⟩) h _).setCell (p := ⟨B, o + 1, none⟩) h _)
/-- The contract of the element's copying. -/
def ToArgZ (lo : Nat)  : Prop := ∀ (v : Value) (e : TA) (w : World), (IsArg w lo w.heap.size) v e → e.wt ≤ 1048576 →
  Calls Tryz.prog 143 #[v] w fun r w' => ∃ c0 c1 : Value, r = .returned (.agg #[c0, c1]) ∧ (IsArg w' w.heap.size w'.heap.size) (.agg #[c0, c1]) e ∧ Bf w.heap.size w w'
theorem CopiedArg.nextZ {w w2 : World} {B : Nat}  {k : Nat} {kids : List TA} {x0 x1 : Value} (hp : k < kids.length) (hD : CopiedArg w B  k kids) (hz : B < w.heap.size) (hb2 : Bf w.heap.size w w2)
    (hc : ∀ j, j < kids.length * 2 → ∃ v, w2.cell? ⟨B, j, none⟩ = some v) (hE : (IsArg w2 w.heap.size w2.heap.size) (.agg #[x0, x1]) (kids[k]'hp)) : CopiedArg (put2 w2 B (k * 2) x0 x1) B  (k + 1) kids := by
  intro j hj hjk
  have hs2 : Same (B + 1) w2.heap.size w2 (put2 w2 B (k * 2) x0 x1) := fun b h1 h2 => put2_heap _ _ _ _ _ b (by omega)
  have hsz := put2_size w2 B (k * 2) x0 x1
  by_cases e : j = k
  · subst e
    obtain ⟨a0, a1⟩ := put2_at w2 B (j * 2) x0 x1 (fun i h1 h2 => hc i (by omega))
    exact ⟨x0, x1, a0, a1, IsArg.same  (fun b h1 h2 => hs2 b (by omega) h2) (by omega) (by omega) _ _ hE⟩
  · obtain ⟨c0, c1, d0, d1, hr⟩ := hD j hj (by omega)
    have hcc : ∀ i, i < k * 2 → (put2 w2 B (k * 2) x0 x1).cell? ⟨B, i, none⟩ = w.cell? ⟨B, i, none⟩ := fun i hi =>
      (put2_other w2 B (k * 2) x0 x1 i (by omega)).trans (hb2.cell (p := ⟨B, i, none⟩) hz)
    refine ⟨c0, c1, (hcc _ (by omega)).trans d0, (hcc _ (by omega)).trans d1, IsArg.same  (fun b h1 h2 => ?_) (Nat.le_refl _) (by have := hb2.size; omega) _ _ hr⟩
    exact (hs2 b h1 (by have := hb2.size; omega)).trans (hb2.block b h2)

set_option maxHeartbeats 1000000 in
theorem toTreeArgS_ofZ (lo : Nat)  (H : ToArgZ lo ) (a : Option Addr) (cap : Nat) (kids : List TA) (w : World) (hk : IsArgs (IsArg w lo w.heap.size) w lo w.heap.size a kids) (ht : kids.length + wtArgs kids ≤ 1048576) :
    Calls Tryz.prog 121 #[.slice a kids.length cap] w fun r w' => ∃ (a' : Option Addr) (cap' : Nat), r = .returned (.slice a' kids.length cap') ∧ IsArgs (IsArg w' w.heap.size w'.heap.size) w' w.heap.size w'.heap.size a' kids ∧ Bf w.heap.size w w' := by
  obtain ⟨M, hM, hmk⟩ := makeArgs kids.length (by omega)
  have HK := hide hk
  have HH := hide H
  have HT := hide ht
  have HM := hide hM
  have hl : kids.length ≤ 1048576 := by omega
  clear hk H ht hM
  go_enter Tryz.func121, Tryz.ntmps121
  go_wp2
  clear hmk
  go_loopw [4] (fun i wr => ∃ k : Nat, k ≤ kids.length ∧ i = .int .i64 k ∧ Hid (Bf w.heap.size w wr) ∧ Hid (w.heap.size < wr.heap.size) ∧ Hid (CopiedArg wr w.heap.size  k kids) ∧ Hid (∀ j, j < kids.length * 2 → ∃ v, wr.cell? ⟨w.heap.size, j, none⟩ = some v) ∧ Hid (∀ j, wr.frozen? ⟨w.heap.size, j, none⟩ = false)) (fun i _ => kids.length - (intOf i).toNat)
  case atStart =>
    refine ⟨0, Nat.zero_le _, rfl, hide ((Bf.refl _ w).alloc (Nat.le_refl _) _), hide (by simp), hide (fun j _ hj => absurd hj (Nat.not_lt_zero _)), hide (fun j hj => ?_), hide (fun j => by simp)⟩
    rw [World.cell?_alloc_new]
    have : j < M.size := by rw [unhide HM]; exact hj
    exact ⟨_, Array.getElem?_eq_getElem this⟩
  case round =>
    obtain ⟨k, hk, rfl, HB, HZ, HD, HC, HF⟩ := hrel
    by_cases hp : k < kids.length
    · rcases (unhide HK).kept (unhide HB).toBelow (unhide HB).size with hq | ⟨b, off, rfl, hbl, hbn, hcs⟩
      · rw [hq] at hp; simp at hp
      obtain ⟨c0, c1, d0, d1, hr⟩ := hcs k hp
      have hs1 := wtArg_step kids k hp
      have hs3 := wtArg_le kids (k + 1)
      obtain ⟨e, he⟩ : ∃ e, kids[k] = e := ⟨_, rfl⟩
      rw [he] at hr hs1
      have hew : e.wt ≤ 1048576 := by have := unhide HT; omega
      have HR := hide hr
      have HE := hide he
      clear hcs hr hs1 hs3 he
      go_wp2_with fail
      refine (unhide HH _ e wr (unhide HR) hew).mono ?_
      rintro r w2 ⟨x0, x1, rfl, hE2, hb2⟩
      obtain ⟨xs, xt, rfl, rfl⟩ := IsArg.form  hE2
      have hz := unhide HZ
      have hcc : ∀ j, j < kids.length * 2 → ∃ v, w2.cell? ⟨w.heap.size, j, none⟩ = some v := fun j hj => by
        obtain ⟨v, hv⟩ := unhide HC j hj
        exact ⟨v, (hb2.cell (p := ⟨w.heap.size, j, none⟩) hz).trans hv⟩
      have hff : ∀ j, w2.frozen? ⟨w.heap.size, j, none⟩ = false := fun j => (hb2.frozen (p := ⟨w.heap.size, j, none⟩) hz).trans (unhide HF j)
      obtain ⟨y0, q0⟩ := hcc (k * 2) (by omega)
      have f0 := hff (k * 2)
      obtain ⟨y1, q1⟩ := hcc (k * 2 + 1) (by omega)
      have f1 := hff (k * 2 + 1)
      have HC2 := hide hcc
      have HF2 := hide hff
      have HE2 := hide hE2
      have HB2 := hide hb2
      clear hcc hff hE2 hb2 hz d0 d1
      have HN : Hid (CopiedArg (put2 w2 w.heap.size (k * 2) (.string xs) (.int .i64 xt)) w.heap.size  (k + 1) kids) := hide (CopiedArg.nextZ  hp (unhide HD) (unhide HZ) (unhide HB2) (unhide HC2) (by rw [unhide HE]; exact unhide HE2))
      have HB3 := hide (((unhide HB).trans ((unhide HB2).mono (unhide HB).size)).trans (put2_belowZ w2 w.heap.size (k * 2) (.string xs) (.int .i64 xt) (Nat.le_refl _)))
      have HZ3 : Hid (w.heap.size < (put2 w2 w.heap.size (k * 2) (.string xs) (.int .i64 xt)).heap.size) := hide (by rw [put2_size]; have := (unhide HB2).size; have := unhide HZ; omega)
      have HF3 : Hid (∀ j, (put2 w2 w.heap.size (k * 2) (.string xs) (.int .i64 xt)).frozen? ⟨w.heap.size, j, none⟩ = false) := hide (fun j => by rw [put2_frozen]; exact unhide HF2 j)
      have HC3 : Hid (∀ j, j < kids.length * 2 → ∃ v, (put2 w2 w.heap.size (k * 2) (.string xs) (.int .i64 xt)).cell? ⟨w.heap.size, j, none⟩ = some v) := hide (fun j hj => by
        by_cases ho : j < k * 2 ∨ k * 2 + 2 ≤ j
        · rw [put2_other _ _ _ _ _ _ ho]; exact unhide HC2 j hj
        · obtain ⟨a0, a1⟩ := put2_at w2 w.heap.size (k * 2) (.string xs) (.int .i64 xt) (fun i h1 h2 => unhide HC2 i (by omega))
          have hj5 : j = k * 2 ∨ j = k * 2 + 1 := by omega
          rcases hj5 with rfl | rfl
          · exact ⟨_, a0⟩
          · exact ⟨_, a1⟩)
      clear HD HC HF HB HZ HE2 HR
      go_wp2
      go_roundw
      case rel => exact ⟨k + 1, by omega, by go_num, HB3, HZ3, HN, HC3, HF3⟩
      case measure => simp [intOf] <;> omega
    · go_wp2
      go_ret
      refine ⟨_, _, rfl, .inr ⟨w.heap.size, 0, rfl, Nat.le_refl _, unhide HZ, fun j hj => ?_⟩, unhide HB⟩
      obtain ⟨c0, c1, d0, d1, hr⟩ := unhide HD j hj (by omega)
      refine ⟨c0, c1, ?_, ?_, IsArg.same  (fun b h1 h2 => rfl) (by omega) (Nat.le_refl _) _ _ hr⟩
      · rw [Nat.zero_add]; exact d0
      · rw [Nat.zero_add]; exact d1
set_option maxHeartbeats 400000 in
theorem toTreeArg_anyZ (lo : Nat) : ToArgZ lo := by
  intro v e w hE _
  obtain ⟨nm, ty⟩ := e
  obtain ⟨rfl, hs⟩ := hE
  have HS := hide hs
  clear hs
  show Calls Tryz.prog 143 #[.agg #[.string nm, .int .i64 ty]] w fun r w' => ∃ c0 c1 : Value, r = .returned (.agg #[c0, c1]) ∧ IsArg w' w.heap.size w'.heap.size (.agg #[c0, c1]) ⟨nm, ty⟩ ∧ Bf w.heap.size w w'
  go_enter Tryz.func143, Tryz.ntmps143
  go_wp2
  refine bodyPost_ret (v := .agg #[.string nm, .int .i64 ty]) (by simp [results, Tryz.results143, go_sem]) rfl ?_
  exact ⟨_, _, rfl, ⟨rfl, unhide HS⟩, (((Bf.refl _ w).alloc (Nat.le_refl _) _).alloc (by simp) _).alloc (by simp; omega) _⟩
end Go.Proofs.YtkiaidjkhhljhaaGreat

namespace Go.Proofs.YtkiaidjkhhljhaaGreat
open Go.RowKit Go.PlainAid

theorem put9_belowZ (w : World) (B o : Nat) (x0 x1 x2 x3 x4 x5 x6 x7 x8 : Value) {n : Nat} (h : n ≤ B) : Bf n w (put9 w B o x0 x1 x2 x3 x4 x5 x6 x7 x8) :=
  ((((((((((Bf.refl n w).setCell (p := ⟨B, o, none⟩) h _).setCell (p := ⟨B, o + 1, none⟩) h _).setCell (p := ⟨B, o + 2, none⟩) h _).setCell (p := ⟨B, o + 3, none⟩) h _).setCell (p := ⟨B, o + 4, none⟩) h _).setCell (p := ⟨B, o + 5, none⟩) h _).setCell (p := ⟨B, o + 6, none⟩) h _).setCell (p := ⟨B, o + 7, none⟩) h _).setCell (p := ⟨B, o + 8, none⟩) h _)
/-- The contract of the element's copying. -/
def ToFunZ (lo : Nat) (h : Nat) : Prop := ∀ (v : Value) (e : TF) (w : World), (IsFun w lo w.heap.size h) v e → e.wt ≤ 1048576 →
  Calls Tryz.prog 88 #[v] w fun r w' => ∃ c0 c1 c2 c3 c4 c5 c6 c7 c8 : Value, r = .returned (.agg #[c0, c1, c2, c3, c4, c5, c6, c7, c8]) ∧ (IsFun w' w.heap.size w'.heap.size h) (.agg #[c0, c1, c2, c3, c4, c5, c6, c7, c8]) e ∧ Bf w.heap.size w w'
theorem CopiedFun.nextZ {w w2 : World} {B : Nat} (h : Nat) {k : Nat} {kids : List TF} {x0 x1 x2 x3 x4 x5 x6 x7 x8 : Value} (hp : k < kids.length) (hD : CopiedFun w B h k kids) (hz : B < w.heap.size) (hb2 : Bf w.heap.size w w2)
    (hc : ∀ j, j < kids.length * 9 → ∃ v, w2.cell? ⟨B, j, none⟩ = some v) (hE : (IsFun w2 w.heap.size w2.heap.size h) (.agg #[x0, x1, x2, x3, x4, x5, x6, x7, x8]) (kids[k]'hp)) : CopiedFun (put9 w2 B (k * 9) x0 x1 x2 x3 x4 x5 x6 x7 x8) B h (k + 1) kids := by
  intro j hj hjk
  have hs2 : Same (B + 1) w2.heap.size w2 (put9 w2 B (k * 9) x0 x1 x2 x3 x4 x5 x6 x7 x8) := fun b h1 h2 => put9_heap _ _ _ _ _ _ _ _ _ _ _ _ b (by omega)
  have hsz := put9_size w2 B (k * 9) x0 x1 x2 x3 x4 x5 x6 x7 x8
  by_cases e : j = k
  · subst e
    obtain ⟨a0, a1, a2, a3, a4, a5, a6, a7, a8⟩ := put9_at w2 B (j * 9) x0 x1 x2 x3 x4 x5 x6 x7 x8 (fun i h1 h2 => hc i (by omega))
    exact ⟨x0, x1, x2, x3, x4, x5, x6, x7, x8, a0, a1, a2, a3, a4, a5, a6, a7, a8, IsFun.same h (fun b h1 h2 => hs2 b (by omega) h2) (by omega) (by omega) _ _ hE⟩
  · obtain ⟨c0, c1, c2, c3, c4, c5, c6, c7, c8, d0, d1, d2, d3, d4, d5, d6, d7, d8, hr⟩ := hD j hj (by omega)
    have hcc : ∀ i, i < k * 9 → (put9 w2 B (k * 9) x0 x1 x2 x3 x4 x5 x6 x7 x8).cell? ⟨B, i, none⟩ = w.cell? ⟨B, i, none⟩ := fun i hi =>
      (put9_other w2 B (k * 9) x0 x1 x2 x3 x4 x5 x6 x7 x8 i (by omega)).trans (hb2.cell (p := ⟨B, i, none⟩) hz)
    refine ⟨c0, c1, c2, c3, c4, c5, c6, c7, c8, (hcc _ (by omega)).trans d0, (hcc _ (by omega)).trans d1, (hcc _ (by omega)).trans d2, (hcc _ (by omega)).trans d3, (hcc _ (by omega)).trans d4, (hcc _ (by omega)).trans d5, (hcc _ (by omega)).trans d6, (hcc _ (by omega)).trans d7, (hcc _ (by omega)).trans d8, IsFun.same h (fun b h1 h2 => ?_) (Nat.le_refl _) (by have := hb2.size; omega) _ _ hr⟩
    exact (hs2 b h1 (by have := hb2.size; omega)).trans (hb2.block b h2)

set_option maxHeartbeats 1000000 in
theorem toTreeFunS_ofZ (lo : Nat) (h : Nat) (H : ToFunZ lo h) (a : Option Addr) (cap : Nat) (kids : List TF) (w : World) (hk : IsFuns (IsFun w lo w.heap.size h) w lo w.heap.size a kids) (ht : kids.length + wtFuns kids ≤ 1048576) :
    Calls Tryz.prog 51 #[.slice a kids.length cap] w fun r w' => ∃ (a' : Option Addr) (cap' : Nat), r = .returned (.slice a' kids.length cap') ∧ IsFuns (IsFun w' w.heap.size w'.heap.size h) w' w.heap.size w'.heap.size a' kids ∧ Bf w.heap.size w w' := by
  obtain ⟨M, hM, hmk⟩ := makeFuns kids.length (by omega)
  have HK := hide hk
  have HH := hide H
  have HT := hide ht
  have HM := hide hM
  have hl : kids.length ≤ 1048576 := by omega
  clear hk H ht hM
  go_enter Tryz.func51, Tryz.ntmps51
  go_wp2
  clear hmk
  go_loopw [4] (fun i wr => ∃ k : Nat, k ≤ kids.length ∧ i = .int .i64 k ∧ Hid (Bf w.heap.size w wr) ∧ Hid (w.heap.size < wr.heap.size) ∧ Hid (CopiedFun wr w.heap.size h k kids) ∧ Hid (∀ j, j < kids.length * 9 → ∃ v, wr.cell? ⟨w.heap.size, j, none⟩ = some v) ∧ Hid (∀ j, wr.frozen? ⟨w.heap.size, j, none⟩ = false)) (fun i _ => kids.length - (intOf i).toNat)
  case atStart =>
    refine ⟨0, Nat.zero_le _, rfl, hide ((Bf.refl _ w).alloc (Nat.le_refl _) _), hide (by simp), hide (fun j _ hj => absurd hj (Nat.not_lt_zero _)), hide (fun j hj => ?_), hide (fun j => by simp)⟩
    rw [World.cell?_alloc_new]
    have : j < M.size := by rw [unhide HM]; exact hj
    exact ⟨_, Array.getElem?_eq_getElem this⟩
  case round =>
    obtain ⟨k, hk, rfl, HB, HZ, HD, HC, HF⟩ := hrel
    by_cases hp : k < kids.length
    · rcases (unhide HK).kept (unhide HB).toBelow (unhide HB).size with hq | ⟨b, off, rfl, hbl, hbn, hcs⟩
      · rw [hq] at hp; simp at hp
      obtain ⟨c0, c1, c2, c3, c4, c5, c6, c7, c8, d0, d1, d2, d3, d4, d5, d6, d7, d8, hr⟩ := hcs k hp
      have hs1 := wtFun_step kids k hp
      have hs3 := wtFun_le kids (k + 1)
      obtain ⟨e, he⟩ : ∃ e, kids[k] = e := ⟨_, rfl⟩
      rw [he] at hr hs1
      have hew : e.wt ≤ 1048576 := by have := unhide HT; omega
      have HR := hide hr
      have HE := hide he
      clear hcs hr hs1 hs3 he
      go_wp2_with fail
      refine (unhide HH _ e wr (unhide HR) hew).mono ?_
      rintro r w2 ⟨x0, x1, x2, x3, x4, x5, x6, x7, x8, rfl, hE2, hb2⟩
      obtain ⟨xs, xp, xa, xl, xc, xt, xk, xm, xn, xd, ya, yl, yc, rfl, rfl, rfl, rfl, rfl, rfl, rfl, rfl, rfl⟩ := IsFun.form h hE2
      have hz := unhide HZ
      have hcc : ∀ j, j < kids.length * 9 → ∃ v, w2.cell? ⟨w.heap.size, j, none⟩ = some v := fun j hj => by
        obtain ⟨v, hv⟩ := unhide HC j hj
        exact ⟨v, (hb2.cell (p := ⟨w.heap.size, j, none⟩) hz).trans hv⟩
      have hff : ∀ j, w2.frozen? ⟨w.heap.size, j, none⟩ = false := fun j => (hb2.frozen (p := ⟨w.heap.size, j, none⟩) hz).trans (unhide HF j)
      obtain ⟨y0, q0⟩ := hcc (k * 9) (by omega)
      have f0 := hff (k * 9)
      obtain ⟨y1, q1⟩ := hcc (k * 9 + 1) (by omega)
      have f1 := hff (k * 9 + 1)
      obtain ⟨y2, q2⟩ := hcc (k * 9 + 2) (by omega)
      have f2 := hff (k * 9 + 2)
      obtain ⟨y3, q3⟩ := hcc (k * 9 + 3) (by omega)
      have f3 := hff (k * 9 + 3)
      obtain ⟨y4, q4⟩ := hcc (k * 9 + 4) (by omega)
      have f4 := hff (k * 9 + 4)
      obtain ⟨y5, q5⟩ := hcc (k * 9 + 5) (by omega)
      have f5 := hff (k * 9 + 5)
      obtain ⟨y6, q6⟩ := hcc (k * 9 + 6) (by omega)
      have f6 := hff (k * 9 + 6)
      obtain ⟨y7, q7⟩ := hcc (k * 9 + 7) (by omega)
      have f7 := hff (k * 9 + 7)
      obtain ⟨y8, q8⟩ := hcc (k * 9 + 8) (by omega)
      have f8 := hff (k * 9 + 8)
      have HC2 := hide hcc
      have HF2 := hide hff
      have HE2 := hide hE2
      have HB2 := hide hb2
      clear hcc hff hE2 hb2 hz d0 d1 d2 d3 d4 d5 d6 d7 d8
      have HN : Hid (CopiedFun (put9 w2 w.heap.size (k * 9) (.string xs) (.bool xp) (.slice xa xl xc) (.int .i64 xt) (.int .i64 xk) (.int .i64 xm) (.string xn) (.string xd) (.slice ya yl yc)) w.heap.size h (k + 1) kids) := hide (CopiedFun.nextZ h hp (unhide HD) (unhide HZ) (unhide HB2) (unhide HC2) (by rw [unhide HE]; exact unhide HE2))
      have HB3 := hide (((unhide HB).trans ((unhide HB2).mono (unhide HB).size)).trans (put9_belowZ w2 w.heap.size (k * 9) (.string xs) (.bool xp) (.slice xa xl xc) (.int .i64 xt) (.int .i64 xk) (.int .i64 xm) (.string xn) (.string xd) (.slice ya yl yc) (Nat.le_refl _)))
      have HZ3 : Hid (w.heap.size < (put9 w2 w.heap.size (k * 9) (.string xs) (.bool xp) (.slice xa xl xc) (.int .i64 xt) (.int .i64 xk) (.int .i64 xm) (.string xn) (.string xd) (.slice ya yl yc)).heap.size) := hide (by rw [put9_size]; have := (unhide HB2).size; have := unhide HZ; omega)
      have HF3 : Hid (∀ j, (put9 w2 w.heap.size (k * 9) (.string xs) (.bool xp) (.slice xa xl xc) (.int .i64 xt) (.int .i64 xk) (.int .i64 xm) (.string xn) (.string xd) (.slice ya yl yc)).frozen? ⟨w.heap.size, j, none⟩ = false) := hide (fun j => by rw [put9_frozen]; exact unhide HF2 j)
      have HC3 : Hid (∀ j, j < kids.length * 9 → ∃ v, (put9 w2 w.heap.size (k * 9) (.string xs) (.bool xp) (.slice xa xl xc) (.int .i64 xt) (.int .i64 xk) (.int .i64 xm) (.string xn) (.string xd) (.slice ya yl yc)).cell? ⟨w.heap.size, j, none⟩ = some v) := hide (fun j hj => by
        by_cases ho : j < k * 9 ∨ k * 9 + 9 ≤ j
        · rw [put9_other _ _ _ _ _ _ _ _ _ _ _ _ _ ho]; exact unhide HC2 j hj
        · obtain ⟨a0, a1, a2, a3, a4, a5, a6, a7, a8⟩ := put9_at w2 w.heap.size (k * 9) (.string xs) (.bool xp) (.slice xa xl xc) (.int .i64 xt) (.int .i64 xk) (.int .i64 xm) (.string xn) (.string xd) (.slice ya yl yc) (fun i h1 h2 => unhide HC2 i (by omega))
          have hj5 : j = k * 9 ∨ j = k * 9 + 1 ∨ j = k * 9 + 2 ∨ j = k * 9 + 3 ∨ j = k * 9 + 4 ∨ j = k * 9 + 5 ∨ j = k * 9 + 6 ∨ j = k * 9 + 7 ∨ j = k * 9 + 8 := by omega
          rcases hj5 with rfl | rfl | rfl | rfl | rfl | rfl | rfl | rfl | rfl
          · exact ⟨_, a0⟩
          · exact ⟨_, a1⟩
          · exact ⟨_, a2⟩
          · exact ⟨_, a3⟩
          · exact ⟨_, a4⟩
          · exact ⟨_, a5⟩
          · exact ⟨_, a6⟩
          · exact ⟨_, a7⟩
          · exact ⟨_, a8⟩)
      clear HD HC HF HB HZ HE2 HR
      go_wp2
      go_roundw
      case rel => exact ⟨k + 1, by omega, by go_num, HB3, HZ3, HN, HC3, HF3⟩
      case measure => simp [intOf] <;> omega
    · go_wp2
      go_ret
      refine ⟨_, _, rfl, .inr ⟨w.heap.size, 0, rfl, Nat.le_refl _, unhide HZ, fun j hj => ?_⟩, unhide HB⟩
      obtain ⟨c0, c1, c2, c3, c4, c5, c6, c7, c8, d0, d1, d2, d3, d4, d5, d6, d7, d8, hr⟩ := unhide HD j hj (by omega)
      refine ⟨c0, c1, c2, c3, c4, c5, c6, c7, c8, ?_, ?_, ?_, ?_, ?_, ?_, ?_, ?_, ?_, IsFun.same h (fun b h1 h2 => rfl) (by omega) (Nat.le_refl _) _ _ hr⟩
      · rw [Nat.zero_add]; exact d0
      · rw [Nat.zero_add]; exact d1
      · rw [Nat.zero_add]; exact d2
      · rw [Nat.zero_add]; exact d3
      · rw [Nat.zero_add]; exact d4
      · rw [Nat.zero_add]; exact d5
      · rw [Nat.zero_add]; exact d6
      · rw [Nat.zero_add]; exact d7
      · rw [Nat.zero_add]; exact d8
set_option maxHeartbeats 2000000 in
theorem toTreeFun_anyZ (lo h : Nat) : ToFunZ lo h := by
  intro v f w hF ht
  obtain ⟨nm, pub, args, ty, body⟩ := f
  obtain ⟨aa, ca, b0, b1, b2, b3, b4, rfl, hz, ha, hE⟩ := hF
  dsimp only at hz ha hE ⊢
  have ht' : nm.size + (args.length + wtArgs args) + body.wt ≤ 1048576 := ht
  have HA := hide (fun (w' : World) (hb : Bf w.heap.size w w') => toTreeArgS_ofZ lo (toTreeArg_anyZ lo) aa ca args w' (ha.kept hb.toBelow hb.size) (by omega))
  have HE := hide (fun (w' : World) (hb : Bf w.heap.size w w') => toTreeExpr_anyZ lo h _ body w' (IsE.kept hb.toBelow hb.size h _ _ hE) (by omega))
  have HZ := hide hz
  clear ha hE ht ht' hz
  go_enter Tryz.func88, Tryz.ntmps88
  go_wp2_with fail
  refine (unhide HA _ ((((Bf.refl _ w).alloc (Nat.le_refl _) _).alloc (by simp) _).alloc (by simp; omega) _)).mono ?_
  rintro r w2 ⟨a', cap', rfl, hk2, hb2⟩
  have hB2 : Bf w.heap.size w w2 := (((((Bf.refl _ w).alloc (Nat.le_refl _) _).alloc (by simp) _).alloc (by simp; omega) _)).trans (hb2.mono (by simp; omega))
  rw [alloc_size, alloc_size, alloc_size] at hk2
  have n1 : Blk w2 w.heap.size [Value.string nm, Value.bool pub, Value.slice aa args.length ca, Value.int .i64 ty, b0, b1, b2, b3, b4] := (((Blk.new w [Value.string nm, Value.bool pub, Value.slice aa args.length ca, Value.int .i64 ty, b0, b1, b2, b3, b4] 134).old _ (by simp only [alloc_size]; omega)).old _ (by simp only [alloc_size]; omega)).below hb2.toBelow (by simp only [alloc_size]; omega)
  have n2 : Blk w2 (w.heap.size + 1) [Value.string ⟨#[]⟩, Value.bool false, Value.slice none 0 0, Value.int .i64 0, Value.int .i64 0, Value.int .i64 0, Value.string ⟨#[]⟩, Value.string ⟨#[]⟩, Value.slice none 0 0] := by
    have := ((Blk.new (w.alloc (.cells #[Value.string nm, Value.bool pub, Value.slice aa args.length ca, Value.int .i64 ty, b0, b1, b2, b3, b4] 134)) [Value.string ⟨#[]⟩, Value.bool false, Value.slice none 0 0, Value.int .i64 0, Value.int .i64 0, Value.int .i64 0, Value.string ⟨#[]⟩, Value.string ⟨#[]⟩, Value.slice none 0 0] 33).old (.cells #[.string nm, .bool pub, .slice none 0 0, .int .i64 0, .int .i64 0, .int .i64 0, .string ⟨#[]⟩, .string ⟨#[]⟩, .slice none 0 0] 33) (by simp only [alloc_size]; omega)).below hb2.toBelow (by simp only [alloc_size]; omega)
    rw [alloc_size] at this
    exact this
  have n3 : Blk w2 (w.heap.size + 1 + 1) [.string nm, .bool pub, .slice none 0 0, .int .i64 0, .int .i64 0, .int .i64 0, .string ⟨#[]⟩, .string ⟨#[]⟩, .slice none 0 0] := by
    have := (Blk.new ((w.alloc (.cells #[Value.string nm, Value.bool pub, Value.slice aa args.length ca, Value.int .i64 ty, b0, b1, b2, b3, b4] 134)).alloc (.cells #[Value.string ⟨#[]⟩, Value.bool false, Value.slice none 0 0, Value.int .i64 0, Value.int .i64 0, Value.int .i64 0, Value.string ⟨#[]⟩, Value.string ⟨#[]⟩, Value.slice none 0 0] 33)) [.string nm, .bool pub, .slice none 0 0, .int .i64 0, .int .i64 0, .int .i64 0, .string ⟨#[]⟩, .string ⟨#[]⟩, .slice none 0 0] 33).below hb2.toBelow (by simp only [alloc_size]; omega)
    rw [alloc_size, alloc_size] at this
    exact this
  have hS2 : w.heap.size + 3 ≤ w2.heap.size := by have := hb2.size; rw [alloc_size, alloc_size, alloc_size] at this; omega
  have p3 : w2.cell? ⟨w.heap.size, 3, none⟩ = some (Value.int .i64 ty) := n1.1 3
  have p4 : w2.cell? ⟨w.heap.size, 4, none⟩ = some (b0) := n1.1 4
  have p5 : w2.cell? ⟨w.heap.size, 5, none⟩ = some (b1) := n1.1 5
  have p6 : w2.cell? ⟨w.heap.size, 6, none⟩ = some (b2) := n1.1 6
  have p7 : w2.cell? ⟨w.heap.size, 7, none⟩ = some (b3) := n1.1 7
  have p8 : w2.cell? ⟨w.heap.size, 8, none⟩ = some (b4) := n1.1 8
  have o0 : w2.cell? ⟨w.heap.size + 1 + 1, 0, none⟩ = some (.string nm) := n3.1 0
  have o1 : w2.cell? ⟨w.heap.size + 1 + 1, 1, none⟩ = some (.bool pub) := n3.1 1
  have o2 : w2.cell? ⟨w.heap.size + 1 + 1, 2, none⟩ = some (.slice none 0 0) := n3.1 2
  have o3 : w2.cell? ⟨w.heap.size + 1 + 1, 3, none⟩ = some (.int .i64 0) := n3.1 3
  have o4 : w2.cell? ⟨w.heap.size + 1 + 1, 4, none⟩ = some (.int .i64 0) := n3.1 4
  have o5 : w2.cell? ⟨w.heap.size + 1 + 1, 5, none⟩ = some (.int .i64 0) := n3.1 5
  have o6 : w2.cell? ⟨w.heap.size + 1 + 1, 6, none⟩ = some (.string ⟨#[]⟩) := n3.1 6
  have o7 : w2.cell? ⟨w.heap.size + 1 + 1, 7, none⟩ = some (.string ⟨#[]⟩) := n3.1 7
  have o8 : w2.cell? ⟨w.heap.size + 1 + 1, 8, none⟩ = some (.slice none 0 0) := n3.1 8
  have g2 : w2.frozen? ⟨w.heap.size + 1 + 1, 2, none⟩ = false := n3.2 2
  have g3 : w2.frozen? ⟨w.heap.size + 1 + 1, 3, none⟩ = false := n3.2 3
  have N2 := hide n2
  have N3 := hide n3
  have HB2 := hide hB2
  have HK2 := hide hk2
  have HS2 := hide hS2
  clear n1 n2 n3 hb2 hB2 hk2 hS2
  go_wp2_with fail
  have hW : Bf w.heap.size w ((w2.setCell ⟨w.heap.size + 1 + 1, 2, none⟩ (.slice a' args.length cap')).setCell ⟨w.heap.size + 1 + 1, 3, none⟩ (.int .i64 ty)) := ((unhide HB2).setCell (p := ⟨w.heap.size + 1 + 1, 2, none⟩) (by simp; omega) _).setCell (p := ⟨w.heap.size + 1 + 1, 3, none⟩) (by simp; omega) _
  have hW3 := ((unhide N3).set 2 (.slice a' args.length cap') (by simp)).set 3 (.int .i64 ty) (by simp)
  have hW2 := ((unhide N2).other (w.heap.size + 1 + 1) 2 (.slice a' args.length cap') (by omega)).other (w.heap.size + 1 + 1) 3 (.int .i64 ty) (by omega)
  have hWs : ((w2.setCell ⟨w.heap.size + 1 + 1, 2, none⟩ (.slice a' args.length cap')).setCell ⟨w.heap.size + 1 + 1, 3, none⟩ (.int .i64 ty)).heap.size = w2.heap.size := by simp [World.setCell]
  have hWo : Same (w.heap.size + 3) w2.heap.size w2 ((w2.setCell ⟨w.heap.size + 1 + 1, 2, none⟩ (.slice a' args.length cap')).setCell ⟨w.heap.size + 1 + 1, 3, none⟩ (.int .i64 ty)) := fun b h1 h2 => (Below.heap_setCell _ _ _ _ (by simp; omega)).trans (Below.heap_setCell _ _ _ _ (by simp; omega))
  generalize ((w2.setCell ⟨w.heap.size + 1 + 1, 2, none⟩ (.slice a' args.length cap')).setCell ⟨w.heap.size + 1 + 1, 3, none⟩ (.int .i64 ty)) = W' at hW hW3 hW2 hWs hWo ⊢
  refine (unhide HE W' hW).mono ?_
  rintro r w4 ⟨x0, x1, x2, x3, x4, rfl, hE4, hb4⟩
  obtain ⟨xk, xm, xn, xd, xa, xl, xc, rfl, rfl, rfl, rfl, rfl⟩ := hE4.form5
  have hs3 := unhide HS2
  have m3 : Blk w4 (w.heap.size + 1 + 1) [Value.string nm, Value.bool pub, Value.slice a' args.length cap', Value.int .i64 ty, Value.int .i64 0, Value.int .i64 0, Value.string ⟨#[]⟩, Value.string ⟨#[]⟩, Value.slice none 0 0] := Blk.below hW3 hb4.toBelow (by omega)
  have m2 : Blk w4 (w.heap.size + 1) [Value.string ⟨#[]⟩, Value.bool false, Value.slice none 0 0, Value.int .i64 0, Value.int .i64 0, Value.int .i64 0, Value.string ⟨#[]⟩, Value.string ⟨#[]⟩, Value.slice none 0 0] := Blk.below hW2 hb4.toBelow (by omega)
  clear p3 p4 p5 p6 p7 p8 o0 o1 o2 o3 o4 o5 o6 o7 o8 g2 g3 N2 N3 hW3 hW2
  have o0 : w4.cell? ⟨w.heap.size + 1 + 1, 0, none⟩ = some (Value.string nm) := m3.1 0
  have o1 : w4.cell? ⟨w.heap.size + 1 + 1, 1, none⟩ = some (Value.bool pub) := m3.1 1
  have o2 : w4.cell? ⟨w.heap.size + 1 + 1, 2, none⟩ = some (Value.slice a' args.length cap') := m3.1 2
  have o3 : w4.cell? ⟨w.heap.size + 1 + 1, 3, none⟩ = some (Value.int .i64 ty) := m3.1 3
  have o4 : w4.cell? ⟨w.heap.size + 1 + 1, 4, none⟩ = some (Value.int .i64 0) := m3.1 4
  have o5 : w4.cell? ⟨w.heap.size + 1 + 1, 5, none⟩ = some (Value.int .i64 0) := m3.1 5
  have o6 : w4.cell? ⟨w.heap.size + 1 + 1, 6, none⟩ = some (Value.string ⟨#[]⟩) := m3.1 6
  have o7 : w4.cell? ⟨w.heap.size + 1 + 1, 7, none⟩ = some (Value.string ⟨#[]⟩) := m3.1 7
  have o8 : w4.cell? ⟨w.heap.size + 1 + 1, 8, none⟩ = some (Value.slice none 0 0) := m3.1 8
  have g4 : w4.frozen? ⟨w.heap.size + 1 + 1, 4, none⟩ = false := m3.2 4
  have g5 : w4.frozen? ⟨w.heap.size + 1 + 1, 5, none⟩ = false := m3.2 5
  have g6 : w4.frozen? ⟨w.heap.size + 1 + 1, 6, none⟩ = false := m3.2 6
  have g7 : w4.frozen? ⟨w.heap.size + 1 + 1, 7, none⟩ = false := m3.2 7
  have g8 : w4.frozen? ⟨w.heap.size + 1 + 1, 8, none⟩ = false := m3.2 8
  have q0 : w4.cell? ⟨w.heap.size + 1, 0, none⟩ = some (Value.string ⟨#[]⟩) := m2.1 0
  have q1 : w4.cell? ⟨w.heap.size + 1, 1, none⟩ = some (Value.bool false) := m2.1 1
  have q2 : w4.cell? ⟨w.heap.size + 1, 2, none⟩ = some (Value.slice none 0 0) := m2.1 2
  have q3 : w4.cell? ⟨w.heap.size + 1, 3, none⟩ = some (Value.int .i64 0) := m2.1 3
  have q4 : w4.cell? ⟨w.heap.size + 1, 4, none⟩ = some (Value.int .i64 0) := m2.1 4
  have q5 : w4.cell? ⟨w.heap.size + 1, 5, none⟩ = some (Value.int .i64 0) := m2.1 5
  have q6 : w4.cell? ⟨w.heap.size + 1, 6, none⟩ = some (Value.string ⟨#[]⟩) := m2.1 6
  have q7 : w4.cell? ⟨w.heap.size + 1, 7, none⟩ = some (Value.string ⟨#[]⟩) := m2.1 7
  have q8 : w4.cell? ⟨w.heap.size + 1, 8, none⟩ = some (Value.slice none 0 0) := m2.1 8
  have f0 : w4.frozen? ⟨w.heap.size + 1, 0, none⟩ = false := m2.2 0
  have f1 : w4.frozen? ⟨w.heap.size + 1, 1, none⟩ = false := m2.2 1
  have f2 : w4.frozen? ⟨w.heap.size + 1, 2, none⟩ = false := m2.2 2
  have f3 : w4.frozen? ⟨w.heap.size + 1, 3, none⟩ = false := m2.2 3
  have f4 : w4.frozen? ⟨w.heap.size + 1, 4, none⟩ = false := m2.2 4
  have f5 : w4.frozen? ⟨w.heap.size + 1, 5, none⟩ = false := m2.2 5
  have f6 : w4.frozen? ⟨w.heap.size + 1, 6, none⟩ = false := m2.2 6
  have f7 : w4.frozen? ⟨w.heap.size + 1, 7, none⟩ = false := m2.2 7
  have f8 : w4.frozen? ⟨w.heap.size + 1, 8, none⟩ = false := m2.2 8
  have HF2 : Hid (Blk ((((((((((((((w4.setCell ⟨w.heap.size + 1 + 1, 4, none⟩ (Value.int .i64 xk)).setCell ⟨w.heap.size + 1 + 1, 5, none⟩ (Value.int .i64 xm)).setCell ⟨w.heap.size + 1 + 1, 6, none⟩ (Value.string xn)).setCell ⟨w.heap.size + 1 + 1, 7, none⟩ (Value.string xd)).setCell ⟨w.heap.size + 1 + 1, 8, none⟩ (Value.slice xa xl xc)).setCell ⟨w.heap.size + 1, 0, none⟩ (Value.string nm)).setCell ⟨w.heap.size + 1, 1, none⟩ (Value.bool pub)).setCell ⟨w.heap.size + 1, 2, none⟩ (Value.slice a' args.length cap')).setCell ⟨w.heap.size + 1, 3, none⟩ (Value.int .i64 ty)).setCell ⟨w.heap.size + 1, 4, none⟩ (Value.int .i64 xk)).setCell ⟨w.heap.size + 1, 5, none⟩ (Value.int .i64 xm)).setCell ⟨w.heap.size + 1, 6, none⟩ (Value.string xn)).setCell ⟨w.heap.size + 1, 7, none⟩ (Value.string xd)).setCell ⟨w.heap.size + 1, 8, none⟩ (Value.slice xa xl xc)) (w.heap.size + 1) [Value.string nm, Value.bool pub, Value.slice a' args.length cap', Value.int .i64 ty, Value.int .i64 xk, Value.int .i64 xm, Value.string xn, Value.string xd, Value.slice xa xl xc]) := hide ((((((((((((((m2.other (w.heap.size + 1 + 1) 4 (Value.int .i64 xk) (by omega)).other (w.heap.size + 1 + 1) 5 (Value.int .i64 xm) (by omega)).other (w.heap.size + 1 + 1) 6 (Value.string xn) (by omega)).other (w.heap.size + 1 + 1) 7 (Value.string xd) (by omega)).other (w.heap.size + 1 + 1) 8 (Value.slice xa xl xc) (by omega)).set 0 (Value.string nm) (by simp)).set 1 (Value.bool pub) (by simp)).set 2 (Value.slice a' args.length cap') (by simp)).set 3 (Value.int .i64 ty) (by simp)).set 4 (Value.int .i64 xk) (by simp)).set 5 (Value.int .i64 xm) (by simp)).set 6 (Value.string xn) (by simp)).set 7 (Value.string xd) (by simp)).set 8 (Value.slice xa xl xc) (by simp))
  have HFB : Hid (Bf w.heap.size w4 ((((((((((((((w4.setCell ⟨w.heap.size + 1 + 1, 4, none⟩ (Value.int .i64 xk)).setCell ⟨w.heap.size + 1 + 1, 5, none⟩ (Value.int .i64 xm)).setCell ⟨w.heap.size + 1 + 1, 6, none⟩ (Value.string xn)).setCell ⟨w.heap.size + 1 + 1, 7, none⟩ (Value.string xd)).setCell ⟨w.heap.size + 1 + 1, 8, none⟩ (Value.slice xa xl xc)).setCell ⟨w.heap.size + 1, 0, none⟩ (Value.string nm)).setCell ⟨w.heap.size + 1, 1, none⟩ (Value.bool pub)).setCell ⟨w.heap.size + 1, 2, none⟩ (Value.slice a' args.length cap')).setCell ⟨w.heap.size + 1, 3, none⟩ (Value.int .i64 ty)).setCell ⟨w.heap.size + 1, 4, none⟩ (Value.int .i64 xk)).setCell ⟨w.heap.size + 1, 5, none⟩ (Value.int .i64 xm)).setCell ⟨w.heap.size + 1, 6, none⟩ (Value.string xn)).setCell ⟨w.heap.size + 1, 7, none⟩ (Value.string xd)).setCell ⟨w.heap.size + 1, 8, none⟩ (Value.slice xa xl xc))) := hide (((((((((((((((Bf.refl w.heap.size w4).setCell (p := ⟨w.heap.size + 1 + 1, 4, none⟩) (by simp; omega) _).setCell (p := ⟨w.heap.size + 1 + 1, 5, none⟩) (by simp; omega) _).setCell (p := ⟨w.heap.size + 1 + 1, 6, none⟩) (by simp; omega) _).setCell (p := ⟨w.heap.size + 1 + 1, 7, none⟩) (by simp; omega) _).setCell (p := ⟨w.heap.size + 1 + 1, 8, none⟩) (by simp; omega) _).setCell (p := ⟨w.heap.size + 1, 0, none⟩) (by simp) _).setCell (p := ⟨w.heap.size + 1, 1, none⟩) (by simp) _).setCell (p := ⟨w.heap.size + 1, 2, none⟩) (by simp) _).setCell (p := ⟨w.heap.size + 1, 3, none⟩) (by simp) _).setCell (p := ⟨w.heap.size + 1, 4, none⟩) (by simp) _).setCell (p := ⟨w.heap.size + 1, 5, none⟩) (by simp) _).setCell (p := ⟨w.heap.size + 1, 6, none⟩) (by simp) _).setCell (p := ⟨w.heap.size + 1, 7, none⟩) (by simp) _).setCell (p := ⟨w.heap.size + 1, 8, none⟩) (by simp) _)
  have HFS : Hid (((((((((((((((w4.setCell ⟨w.heap.size + 1 + 1, 4, none⟩ (Value.int .i64 xk)).setCell ⟨w.heap.size + 1 + 1, 5, none⟩ (Value.int .i64 xm)).setCell ⟨w.heap.size + 1 + 1, 6, none⟩ (Value.string xn)).setCell ⟨w.heap.size + 1 + 1, 7, none⟩ (Value.string xd)).setCell ⟨w.heap.size + 1 + 1, 8, none⟩ (Value.slice xa xl xc)).setCell ⟨w.heap.size + 1, 0, none⟩ (Value.string nm)).setCell ⟨w.heap.size + 1, 1, none⟩ (Value.bool pub)).setCell ⟨w.heap.size + 1, 2, none⟩ (Value.slice a' args.length cap')).setCell ⟨w.heap.size + 1, 3, none⟩ (Value.int .i64 ty)).setCell ⟨w.heap.size + 1, 4, none⟩ (Value.int .i64 xk)).setCell ⟨w.heap.size + 1, 5, none⟩ (Value.int .i64 xm)).setCell ⟨w.heap.size + 1, 6, none⟩ (Value.string xn)).setCell ⟨w.heap.size + 1, 7, none⟩ (Value.string xd)).setCell ⟨w.heap.size + 1, 8, none⟩ (Value.slice xa xl xc)).heap.size = w4.heap.size) := hide (by simp [World.setCell])
  have HFO : Hid (Same (w.heap.size + 3) w4.heap.size w4 ((((((((((((((w4.setCell ⟨w.heap.size + 1 + 1, 4, none⟩ (Value.int .i64 xk)).setCell ⟨w.heap.size + 1 + 1, 5, none⟩ (Value.int .i64 xm)).setCell ⟨w.heap.size + 1 + 1, 6, none⟩ (Value.string xn)).setCell ⟨w.heap.size + 1 + 1, 7, none⟩ (Value.string xd)).setCell ⟨w.heap.size + 1 + 1, 8, none⟩ (Value.slice xa xl xc)).setCell ⟨w.heap.size + 1, 0, none⟩ (Value.string nm)).setCell ⟨w.heap.size + 1, 1, none⟩ (Value.bool pub)).setCell ⟨w.heap.size + 1, 2, none⟩ (Value.slice a' args.length cap')).setCell ⟨w.heap.size + 1, 3, none⟩ (Value.int .i64 ty)).setCell ⟨w.heap.size + 1, 4, none⟩ (Value.int .i64 xk)).setCell ⟨w.heap.size + 1, 5, none⟩ (Value.int .i64 xm)).setCell ⟨w.heap.size + 1, 6, none⟩ (Value.string xn)).setCell ⟨w.heap.size + 1, 7, none⟩ (Value.string xd)).setCell ⟨w.heap.size + 1, 8, none⟩ (Value.slice xa xl xc))) := hide (fun b h1 h2 => by rw [Below.heap_setCell _ _ _ _ (by simp; omega), Below.heap_setCell _ _ _ _ (by simp; omega), Below.heap_setCell _ _ _ _ (by simp; omega), Below.heap_setCell _ _ _ _ (by simp; omega), Below.heap_setCell _ _ _ _ (by simp; omega), Below.heap_setCell _ _ _ _ (by simp; omega), Below.heap_setCell _ _ _ _ (by simp; omega), Below.heap_setCell _ _ _ _ (by simp; omega), Below.heap_setCell _ _ _ _ (by simp; omega), Below.heap_setCell _ _ _ _ (by simp; omega), Below.heap_setCell _ _ _ _ (by simp; omega), Below.heap_setCell _ _ _ _ (by simp; omega), Below.heap_setCell _ _ _ _ (by simp; omega), Below.heap_setCell _ _ _ _ (by simp; omega)])
  have HB4 := hide (hW.trans (hb4.mono (by omega)))
  have HE4 := hide hE4
  have HBB := hide hb4
  have HWO := hide hWo
  have HWS := hide hWs
  clear m2 m3 hE4 hb4 hW hWo hWs hs3
  go_wp2
  obtain ⟨F, hF⟩ : ∃ F, F = ((((((((((((((w4.setCell ⟨w.heap.size + 1 + 1, 4, none⟩ (Value.int .i64 xk)).setCell ⟨w.heap.size + 1 + 1, 5, none⟩ (Value.int .i64 xm)).setCell ⟨w.heap.size + 1 + 1, 6, none⟩ (Value.string xn)).setCell ⟨w.heap.size + 1 + 1, 7, none⟩ (Value.string xd)).setCell ⟨w.heap.size + 1 + 1, 8, none⟩ (Value.slice xa xl xc)).setCell ⟨w.heap.size + 1, 0, none⟩ (Value.string nm)).setCell ⟨w.heap.size + 1, 1, none⟩ (Value.bool pub)).setCell ⟨w.heap.size + 1, 2, none⟩ (Value.slice a' args.length cap')).setCell ⟨w.heap.size + 1, 3, none⟩ (Value.int .i64 ty)).setCell ⟨w.heap.size + 1, 4, none⟩ (Value.int .i64 xk)).setCell ⟨w.heap.size + 1, 5, none⟩ (Value.int .i64 xm)).setCell ⟨w.heap.size + 1, 6, none⟩ (Value.string xn)).setCell ⟨w.heap.size + 1, 7, none⟩ (Value.string xd)).setCell ⟨w.heap.size + 1, 8, none⟩ (Value.slice xa xl xc)) := ⟨_, rfl⟩
  rw [← hF] at HF2 HFB HFS HFO ⊢
  have e := (unhide HF2).1
  have e0 : F.cell? ⟨w.heap.size + 1, 0, none⟩ = some (Value.string nm) := e 0
  have e1 : F.cell? ⟨w.heap.size + 1, 1, none⟩ = some (Value.bool pub) := e 1
  have e2 : F.cell? ⟨w.heap.size + 1, 2, none⟩ = some (Value.slice a' args.length cap') := e 2
  have e3 : F.cell? ⟨w.heap.size + 1, 3, none⟩ = some (Value.int .i64 ty) := e 3
  have e4 : F.cell? ⟨w.heap.size + 1, 4, none⟩ = some (Value.int .i64 xk) := e 4
  have e5 : F.cell? ⟨w.heap.size + 1, 5, none⟩ = some (Value.int .i64 xm) := e 5
  have e6 : F.cell? ⟨w.heap.size + 1, 6, none⟩ = some (Value.string xn) := e 6
  have e7 : F.cell? ⟨w.heap.size + 1, 7, none⟩ = some (Value.string xd) := e 7
  have e8 : F.cell? ⟨w.heap.size + 1, 8, none⟩ = some (Value.slice xa xl xc) := e 8
  refine bodyPost_ret (v := .agg #[Value.string nm, Value.bool pub, Value.slice a' args.length cap', Value.int .i64 ty, Value.int .i64 xk, Value.int .i64 xm, Value.string xn, Value.string xd, Value.slice xa xl xc]) (by simp [results, Tryz.results88, go_sem, e0, e1, e2, e3, e4, e5, e6, e7, e8]) rfl ?_
  refine ⟨_, _, _, _, _, _, _, _, _, rfl, ⟨a', cap', _, _, _, _, _, rfl, unhide HZ, ?_, ?_⟩, (unhide HB4).trans (unhide HFB)⟩
  · have k1 : Same (w.heap.size + 3) w2.heap.size w2 F := fun b h1 h2 => ((unhide HFO) b h1 (by have := (unhide HBB).size; have := unhide HWS; omega)).trans (((unhide HBB).block b (by have := unhide HWS; omega)).trans ((unhide HWO) b h1 h2))
    have k2 : w2.heap.size ≤ F.heap.size := by have := (unhide HBB).size; have := unhide HWS; have := unhide HFS; omega
    exact (unhide HK2).mono (fun v e he => IsArg.same k1 (by omega) k2 v e he) k1 (by omega) k2
  · exact IsE.same (fun b h1 h2 => (unhide HFO) b (by have := unhide HWS; have := unhide HS2; omega) h2) (by have := unhide HWS; have := unhide HS2; omega) (by have := unhide HFS; omega) h _ _ (unhide HE4)
end Go.Proofs.YtkiaidjkhhljhaaGreat

namespace Go.Proofs.YtkiaidjkhhljhaaGreat
open Go.RowKit Go.PlainAid

set_option maxHeartbeats 1000000 in
theorem toWds_anyZ (lo : Nat) (a : Option Addr) (cap : Nat) (ws : List ByteArray) (w : World) (h : IsWds w lo w.heap.size a ws) (hl : ws.length ≤ 1048576) :
    Calls Tryz.prog 50 #[.slice a ws.length cap] w fun e w' => ∃ (a' : Option Addr) (cap' : Nat), e = .returned (.slice a' ws.length cap') ∧ ws.length ≤ cap' ∧ IsWds w' w.heap.size w'.heap.size a' ws ∧ Bf w.heap.size w w' := by
  obtain ⟨M, hM, hmk⟩ := make_wds ws.length hl
  have HW := hide h
  have HM := hide hM
  clear h hM
  go_enter Tryz.func50, Tryz.ntmps50
  go_wp2
  clear hmk
  go_loopw [4] (fun i wr => ∃ k : Nat, k ≤ ws.length ∧ i = .int .i64 k ∧ Hid (Bf w.heap.size w wr) ∧ Hid (w.heap.size < wr.heap.size) ∧ Hid (∀ j (hj : j < ws.length), j < k → wr.cell? ⟨w.heap.size, j, none⟩ = some (.string ws[j])) ∧ Hid (∀ j, j < ws.length → ∃ v, wr.cell? ⟨w.heap.size, j, none⟩ = some v) ∧ Hid (∀ j, wr.frozen? ⟨w.heap.size, j, none⟩ = false)) (fun i _ => ws.length - (intOf i).toNat)
  case atStart =>
    refine ⟨0, Nat.zero_le _, rfl, hide ((Bf.refl _ w).alloc (Nat.le_refl _) _), hide (by simp), hide (fun j _ hj => absurd hj (Nat.not_lt_zero _)), hide (fun j hj => ?_), hide (fun j => by simp)⟩
    rw [World.cell?_alloc_new]
    have : j < M.size := by rw [unhide HM]; exact hj
    exact ⟨_, Array.getElem?_eq_getElem this⟩
  case round =>
    obtain ⟨k, hk, rfl, HB, HZ, HD, HC, HF⟩ := hrel
    by_cases hp : k < ws.length
    · rcases (unhide HW).kept (unhide HB).toBelow (Nat.le_refl _) with h | ⟨b, off, rfl, hbl, hb, hc⟩
      · rw [h] at hp; simp at hp
      have hck := hc k hp
      obtain ⟨v, hv⟩ := unhide HC k hp
      have hf := unhide HF k
      obtain ⟨x, hx⟩ : ∃ x, ws[k]'hp = x := ⟨_, rfl⟩
      rw [hx] at hck
      have HX := hide hx
      clear hc hx
      go_wp2
      go_roundw
      case rel =>
        refine ⟨k + 1, by omega, by go_num, hide ((unhide HB).setCell (p := ⟨w.heap.size, k, none⟩) (Nat.le_refl _) _), hide (by simpa [World.setCell] using unhide HZ), hide (fun j hj hjk => ?_), hide (fun j hj => ?_), hide (fun j => by rw [World.frozen?_setCell]; exact unhide HF j)⟩
        · by_cases e : j = k
          · subst e
            rw [unhide HX]
            exact World.cell?_setCell_same' _ _ _ (by rw [hv]; rfl)
          · rw [World.cell?_setCell_other _ ⟨w.heap.size, k, none⟩ ⟨w.heap.size, j, none⟩ _ (by simp <;> omega)]
            exact unhide HD j hj (by omega)
        · by_cases e : j = k
          · subst e
            exact ⟨_, World.cell?_setCell_same' _ _ _ (by rw [hv]; rfl)⟩
          · rw [World.cell?_setCell_other _ ⟨w.heap.size, k, none⟩ ⟨w.heap.size, j, none⟩ _ (by simp <;> omega)]
            exact unhide HC j hj
      case measure => simp [intOf]; omega
    · go_wp2
      go_ret
      refine ⟨_, _, rfl, Nat.le_refl _, .inr ⟨w.heap.size, 0, rfl, Nat.le_refl _, unhide HZ, fun j hj => ?_⟩, unhide HB⟩
      rw [Nat.zero_add]
      exact unhide HD j hj (by omega)

set_option maxHeartbeats 2000000 in
theorem toTreeMod_anyZ (lo h : Nat) (v : Value) (m : TM) (w : World) (hM : IsMod w lo w.heap.size h v m) (ht : m.wt ≤ 1048576) :
    Calls Tryz.prog 17 #[v] w fun r w' => ∃ v', r = .returned v' ∧ IsMod w' w.heap.size w'.heap.size h v' m ∧ Bf w.heap.size w w' := by
  obtain ⟨us, fs, mn⟩ := m
  obtain ⟨a1, a2, a3, k1, k2, k3, rfl, ⟨z1, z2, z3, z4, _⟩, q1, q2, q3⟩ := hM
  dsimp only at z1 z2 z3 z4 q1 q2 q3 ⊢
  have hz : us.length ≤ maxLen ∧ fs.length ≤ maxLen ∧ mn.length ≤ maxLen ∧ ∀ x ∈ us, x.size ≤ maxLen := ⟨z1, z2, z3, z4⟩
  clear z1 z2 z3 z4
  have ht' : (us.length + wtWds us) + (fs.length + wtFuns fs) + (mn.length + wtL mn) ≤ 1048576 := ht
  have HA := hide (fun (w' : World) (hb : Bf w.heap.size w w') => toWds_anyZ lo a1 k1 us w' (q1.kept hb.toBelow hb.size) (by omega))
  have HC := hide (fun (w' : World) (hb : Bf w.heap.size w w') => toTreeFunS_ofZ lo h (toTreeFun_anyZ lo h) a2 k2 fs w' (q2.kept hb.toBelow hb.size) (by omega))
  have HE := hide (fun (w' : World) (hb : Bf w.heap.size w w') => toTreeExprS_ofZ lo h (toTreeExpr_anyZ lo h) a3 k3 mn w' (q3.kept hb.toBelow hb.size) (by omega))
  have HZ := hide hz
  clear q1 q2 q3 ht ht' hz
  go_enter Tryz.func17, Tryz.ntmps17
  go_wp2_with fail
  refine (unhide HA _ ((((Bf.refl _ w).alloc (Nat.le_refl _) _).alloc (by simp) _).alloc (by simp; omega) _)).mono ?_
  rintro r w2 ⟨b1, j1, rfl, hj1, hk2, hb2⟩
  have HJ1 := hide hj1
  clear hj1
  have hB2 : Bf w.heap.size w w2 := (((((Bf.refl _ w).alloc (Nat.le_refl _) _).alloc (by simp) _).alloc (by simp; omega) _)).trans (hb2.mono (by simp; omega))
  rw [alloc_size, alloc_size, alloc_size] at hk2
  have n1 : Blk w2 w.heap.size [Value.slice a1 us.length k1, .slice a2 fs.length k2, .slice a3 mn.length k3] := (((Blk.new w [Value.slice a1 us.length k1, .slice a2 fs.length k2, .slice a3 mn.length k3] 47).old _ (by simp only [alloc_size]; omega)).old _ (by simp only [alloc_size]; omega)).below hb2.toBelow (by simp only [alloc_size]; omega)
  have n2 : Blk w2 (w.heap.size + 1) [Value.slice none 0 0, Value.slice none 0 0, Value.slice none 0 0] := by
    have := ((Blk.new (w.alloc (.cells #[Value.slice a1 us.length k1, .slice a2 fs.length k2, .slice a3 mn.length k3] 47)) [Value.slice none 0 0, Value.slice none 0 0, Value.slice none 0 0] 27).old (.cells #[Value.slice none 0 0, Value.slice none 0 0, Value.slice none 0 0] 27) (by simp only [alloc_size]; omega)).below hb2.toBelow (by simp only [alloc_size]; omega)
    rw [alloc_size] at this
    exact this
  have n3 : Blk w2 (w.heap.size + 1 + 1) [Value.slice none 0 0, Value.slice none 0 0, Value.slice none 0 0] := by
    have := (Blk.new ((w.alloc (.cells #[Value.slice a1 us.length k1, .slice a2 fs.length k2, .slice a3 mn.length k3] 47)).alloc (.cells #[Value.slice none 0 0, Value.slice none 0 0, Value.slice none 0 0] 27)) [Value.slice none 0 0, Value.slice none 0 0, Value.slice none 0 0] 27).below hb2.toBelow (by simp only [alloc_size]; omega)
    rw [alloc_size, alloc_size] at this
    exact this
  have hS2 : w.heap.size + 3 ≤ w2.heap.size := by have := hb2.size; rw [alloc_size, alloc_size, alloc_size] at this; omega
  have p1 := n1.cellAt (i := 1) rfl
  have o0 := n3.cellAt (i := 0) rfl
  have g0 := n3.2 0
  have N1 := hide n1
  have N2 := hide n2
  have N3 := hide n3
  have HB2 := hide hB2
  have HK2 := hide hk2
  have HS2 := hide hS2
  clear n1 n2 n3 hb2 hB2 hk2 hS2
  go_wp2_with fail
  have hW : Bf w.heap.size w (w2.setCell ⟨w.heap.size + 1 + 1, 0, none⟩ (.slice b1 us.length j1)) := (unhide HB2).setCell (p := ⟨w.heap.size + 1 + 1, 0, none⟩) (by simp; omega) _
  have hW3 := (unhide N3).set 0 (.slice b1 us.length j1) (by simp)
  have hW2 := (unhide N2).other (w.heap.size + 1 + 1) 0 (.slice b1 us.length j1) (by omega)
  have hW1 := (unhide N1).other (w.heap.size + 1 + 1) 0 (.slice b1 us.length j1) (by omega)
  have hWs : (w2.setCell ⟨w.heap.size + 1 + 1, 0, none⟩ (.slice b1 us.length j1)).heap.size = w2.heap.size := by simp [World.setCell]
  have hWo : Same (w.heap.size + 3) w2.heap.size w2 (w2.setCell ⟨w.heap.size + 1 + 1, 0, none⟩ (.slice b1 us.length j1)) := fun b h1 h2 => Below.heap_setCell _ _ _ _ (by simp; omega)
  generalize (w2.setCell ⟨w.heap.size + 1 + 1, 0, none⟩ (.slice b1 us.length j1)) = W' at hW hW3 hW2 hW1 hWs hWo ⊢
  have hk3 := (unhide HK2).same hWo (Nat.le_refl _) (by omega : w2.heap.size ≤ W'.heap.size)
  have hS3 : w.heap.size + 3 ≤ W'.heap.size := by have := unhide HS2; omega
  clear p1 o0 g0 N1 N2 N3 HB2 HK2 HS2 hWo hWs
  refine (unhide HC W' hW).mono ?_
  rintro r w4 ⟨b2, j2, rfl, hk4, hb4⟩
  have hk3' := hk3.kept hb4.toBelow hb4.size
  have hB4 := hW.trans (hb4.mono (by omega))
  have hS4 : w.heap.size + 3 ≤ w4.heap.size := by have := hb4.size; omega
  have n1 := hW1.below hb4.toBelow (by omega)
  have n2 := hW2.below hb4.toBelow (by omega)
  have n3 := hW3.below hb4.toBelow (by omega)
  have p2 := n1.cellAt (i := 2) rfl
  have o1 := n3.cellAt (i := 1) rfl
  have g1 := n3.2 1
  have hk4' := hk4.mono (fun v e he => IsFun.same h (fun _ _ _ => rfl) hS3 (Nat.le_refl _) v e he) (fun _ _ _ => rfl) hS3 (Nat.le_refl _)
  have N1 := hide n1
  have N2 := hide n2
  have N3 := hide n3
  have HB2 := hide hB4
  have HK2 := hide hk3'
  have HK4 := hide hk4'
  have HS2 := hide hS4
  clear n1 n2 n3 hb4 hB4 hk3 hk3' hk4 hk4' hS4 hS3 hW hW1 hW2 hW3
  go_wp2_with fail
  have hW : Bf w.heap.size w (w4.setCell ⟨w.heap.size + 1 + 1, 1, none⟩ (.slice b2 fs.length j2)) := (unhide HB2).setCell (p := ⟨w.heap.size + 1 + 1, 1, none⟩) (by simp; omega) _
  have hW3 := (unhide N3).set 1 (.slice b2 fs.length j2) (by simp)
  have hW2 := (unhide N2).other (w.heap.size + 1 + 1) 1 (.slice b2 fs.length j2) (by omega)
  have hWs : (w4.setCell ⟨w.heap.size + 1 + 1, 1, none⟩ (.slice b2 fs.length j2)).heap.size = w4.heap.size := by simp [World.setCell]
  have hWo : Same (w.heap.size + 3) w4.heap.size w4 (w4.setCell ⟨w.heap.size + 1 + 1, 1, none⟩ (.slice b2 fs.length j2)) := fun b h1 h2 => Below.heap_setCell _ _ _ _ (by simp; omega)
  generalize (w4.setCell ⟨w.heap.size + 1 + 1, 1, none⟩ (.slice b2 fs.length j2)) = W5 at hW hW3 hW2 hWs hWo ⊢
  have hk3 := (unhide HK2).same hWo (Nat.le_refl _) (by omega : w4.heap.size ≤ W5.heap.size)
  have hk4 := (unhide HK4).mono (fun v e he => IsFun.same h hWo (Nat.le_refl _) (by omega : w4.heap.size ≤ W5.heap.size) v e he) hWo (Nat.le_refl _) (by omega : w4.heap.size ≤ W5.heap.size)
  have hS3 : w.heap.size + 3 ≤ W5.heap.size := by have := unhide HS2; omega
  clear p2 o1 g1 N1 N2 N3 HB2 HK2 HK4 HS2 hWo hWs
  refine (unhide HE W5 hW).mono ?_
  rintro r w6 ⟨b3, j3, rfl, hk6, hb6⟩
  have hk3' := hk3.kept hb6.toBelow hb6.size
  have hk4' := hk4.kept hb6.toBelow hb6.size
  have hk6' := hk6.mono (fun v e he => IsE.same (fun _ _ _ => rfl) hS3 (Nat.le_refl _) h v e he) (fun _ _ _ => rfl) hS3 (Nat.le_refl _)
  have hB6 := hW.trans (hb6.mono (by omega))
  have hS6 : w.heap.size + 3 ≤ w6.heap.size := by have := hb6.size; omega
  have n2 := hW2.below hb6.toBelow (by omega)
  have n3 := hW3.below hb6.toBelow (by omega)
  have o0 := n3.cellAt (i := 0) rfl
  have o1 := n3.cellAt (i := 1) rfl
  have o2 := n3.cellAt (i := 2) rfl
  have g2 := n3.2 2
  have q0 := n2.cellAt (i := 0) rfl
  have q1 := n2.cellAt (i := 1) rfl
  have q2 := n2.cellAt (i := 2) rfl
  have f0 := n2.2 0
  have f1 := n2.2 1
  have f2 := n2.2 2
  have HF2 := hide (((((n2.other (w.heap.size + 1 + 1) 2 (.slice b3 mn.length j3) (by omega)).set 0 (.slice b1 us.length j1) (by simp)).set 1 (.slice b2 fs.length j2) (by simp)).set 2 (.slice b3 mn.length j3) (by simp)))
  have HFB := hide ((((hB6.setCell (p := ⟨w.heap.size + 1 + 1, 2, none⟩) (by simp; omega) (.slice b3 mn.length j3)).setCell (p := ⟨w.heap.size + 1, 0, none⟩) (by simp) (.slice b1 us.length j1)).setCell (p := ⟨w.heap.size + 1, 1, none⟩) (by simp) (.slice b2 fs.length j2)).setCell (p := ⟨w.heap.size + 1, 2, none⟩) (by simp) (.slice b3 mn.length j3))
  have HFS : Hid (((((w6.setCell ⟨w.heap.size + 1 + 1, 2, none⟩ (.slice b3 mn.length j3)).setCell ⟨w.heap.size + 1, 0, none⟩ (.slice b1 us.length j1)).setCell ⟨w.heap.size + 1, 1, none⟩ (.slice b2 fs.length j2)).setCell ⟨w.heap.size + 1, 2, none⟩ (.slice b3 mn.length j3)).heap.size = w6.heap.size) := hide (by simp [World.setCell])
  have HFO : Hid (Same (w.heap.size + 3) w6.heap.size w6 ((((w6.setCell ⟨w.heap.size + 1 + 1, 2, none⟩ (.slice b3 mn.length j3)).setCell ⟨w.heap.size + 1, 0, none⟩ (.slice b1 us.length j1)).setCell ⟨w.heap.size + 1, 1, none⟩ (.slice b2 fs.length j2)).setCell ⟨w.heap.size + 1, 2, none⟩ (.slice b3 mn.length j3))) := hide (fun b h1 h2 => by
    rw [Below.heap_setCell _ _ _ _ (by simp; omega), Below.heap_setCell _ _ _ _ (by simp; omega), Below.heap_setCell _ _ _ _ (by simp; omega), Below.heap_setCell _ _ _ _ (by simp; omega)])
  have K1 := hide hk3'
  have K2 := hide hk4'
  have K3 := hide hk6'
  have S6 := hide hS6
  clear n2 n3 hk3 hk3' hk4 hk4' hk6 hk6' hB6 hS6 hW hW2 hW3 hS3 hb6
  go_wp2
  obtain ⟨F, hF⟩ : ∃ F, F = ((((w6.setCell ⟨w.heap.size + 1 + 1, 2, none⟩ (.slice b3 mn.length j3)).setCell ⟨w.heap.size + 1, 0, none⟩ (.slice b1 us.length j1)).setCell ⟨w.heap.size + 1, 1, none⟩ (.slice b2 fs.length j2)).setCell ⟨w.heap.size + 1, 2, none⟩ (.slice b3 mn.length j3)) := ⟨_, rfl⟩
  rw [← hF] at HF2 HFB HFS HFO ⊢
  have e0 := (unhide HF2).cellAt (i := 0) rfl
  have e1 := (unhide HF2).cellAt (i := 1) rfl
  have e2 := (unhide HF2).cellAt (i := 2) rfl
  refine bodyPost_ret (v := .agg #[.slice b1 us.length j1, .slice b2 fs.length j2, .slice b3 mn.length j3]) (by simp [results, Tryz.results17, go_sem, e0, e1, e2]) rfl ?_
  have hs := unhide HFO
  have hz := unhide HFS
  have hl : w.heap.size ≤ w.heap.size + 3 := by omega
  refine ⟨_, rfl, ⟨b1, b2, b3, j1, j2, j3, rfl, ⟨(unhide HZ).1, (unhide HZ).2.1, (unhide HZ).2.2.1, (unhide HZ).2.2.2, unhide HJ1⟩, (unhide K1).same hs hl (by omega), (unhide K2).mono (fun v e he => IsFun.same h hs hl (by omega) v e he) hs hl (by omega), (unhide K3).mono (fun v e he => IsE.same hs hl (by omega) h v e he) hs hl (by omega)⟩, unhide HFB⟩
end Go.Proofs.YtkiaidjkhhljhaaGreat
