/- The walks of toTreeExpr and toTreeExprS once more: the copy may be written. Conditions: the tree can be read, and weighs at most 2^20. -/
import Derived.Test.YtkiaidjkhhljhaaZa
namespace Go.Proofs.Ytkiaidjkhhljhaa
open Go.RowKit Go.PlainAid

theorem put5_belowZ (w : World) (B o : Nat) (x0 x1 x2 x3 x4 : Value) {n : Nat} (h : n ≤ B) : Bf n w (put5 w B o x0 x1 x2 x3 x4) :=
  (((((Bf.refl n w).setCell (p := ⟨B, o, none⟩) h _).setCell (p := ⟨B, o + 1, none⟩) h _).setCell (p := ⟨B, o + 2, none⟩) h _).setCell (p := ⟨B, o + 3, none⟩) h _).setCell (p := ⟨B, o + 4, none⟩) h _
/-- The contract of toTreeExpr for trees at most h deep: a copy in new memory. -/
def ToEZ (lo h : Nat) : Prop := ∀ (v : Value) (e : TE) (w : World), IsE w lo w.heap.size h v e → e.wt ≤ 1048576 →
  Calls Try.prog 52 #[v] w fun r w' => ∃ c0 c1 c2 c3 c4 : Value, r = .returned (.agg #[c0, c1, c2, c3, c4]) ∧ IsE w' w.heap.size w'.heap.size h (.agg #[c0, c1, c2, c3, c4]) e ∧ Bf w.heap.size w w'
theorem Copied.nextZ {w w2 : World} {B h k : Nat} {kids : List TE} {x0 x1 x2 x3 x4 : Value} (hp : k < kids.length) (hD : Copied w B h k kids) (hz : B < w.heap.size) (hb2 : Bf w.heap.size w w2)
    (hc : ∀ j, j < kids.length * 5 → ∃ v, w2.cell? ⟨B, j, none⟩ = some v) (hE : IsE w2 w.heap.size w2.heap.size h (.agg #[x0, x1, x2, x3, x4]) (kids[k]'hp)) : Copied (put5 w2 B (k * 5) x0 x1 x2 x3 x4) B h (k + 1) kids := by
  intro j hj hjk
  have hs2 : Same (B + 1) w2.heap.size w2 (put5 w2 B (k * 5) x0 x1 x2 x3 x4) := fun b h1 h2 => put5_heap _ _ _ _ _ _ _ _ b (by omega)
  have hsz := put5_size w2 B (k * 5) x0 x1 x2 x3 x4
  by_cases e : j = k
  · subst e
    obtain ⟨a0, a1, a2, a3, a4⟩ := put5_at w2 B (j * 5) x0 x1 x2 x3 x4 (fun i h1 h2 => hc i (by omega))
    exact ⟨x0, x1, x2, x3, x4, a0, a1, a2, a3, a4, IsE.same (fun b h1 h2 => hs2 b (by omega) h2) (by omega) (by omega) h _ _ hE⟩
  · obtain ⟨c0, c1, c2, c3, c4, d0, d1, d2, d3, d4, hr⟩ := hD j hj (by omega)
    have hcc : ∀ i, i < k * 5 → (put5 w2 B (k * 5) x0 x1 x2 x3 x4).cell? ⟨B, i, none⟩ = w.cell? ⟨B, i, none⟩ := fun i hi =>
      (put5_other w2 B (k * 5) x0 x1 x2 x3 x4 i (by omega)).trans (hb2.cell (p := ⟨B, i, none⟩) hz)
    refine ⟨c0, c1, c2, c3, c4, (hcc _ (by omega)).trans d0, (hcc _ (by omega)).trans d1, (hcc _ (by omega)).trans d2, (hcc _ (by omega)).trans d3, (hcc _ (by omega)).trans d4, IsE.same (fun b h1 h2 => ?_) (Nat.le_refl _) (by have := hb2.size; omega) h _ _ hr⟩
    exact (hs2 b h1 (by have := hb2.size; omega)).trans (hb2.block b h2)

set_option maxHeartbeats 1000000 in
theorem toTreeExprS_ofZ (lo h : Nat) (H : ToEZ lo h) (a : Option Addr) (cap : Nat) (kids : List TE) (w : World) (hk : IsKids (IsE w lo w.heap.size h) w lo w.heap.size a kids) (ht : kids.length + wtL kids ≤ 1048576) :
    Calls Try.prog 32 #[.slice a kids.length cap] w fun r w' => ∃ (a' : Option Addr) (cap' : Nat), r = .returned (.slice a' kids.length cap') ∧ IsKids (IsE w' w.heap.size w'.heap.size h) w' w.heap.size w'.heap.size a' kids ∧ Bf w.heap.size w w' := by
  obtain ⟨M, hM, hmk⟩ := make_exprs kids.length (by omega)
  have HK := hide hk
  have HH := hide H
  have HT := hide ht
  have HM := hide hM
  have hl : kids.length ≤ 1048576 := by omega
  clear hk H ht hM
  go_enter Try.func32, Try.ntmps32
  go_wp2
  clear hmk
  go_loopw [4] (fun i wr => ∃ k : Nat, k ≤ kids.length ∧ i = .int .i64 k ∧ Hid (Bf w.heap.size w wr) ∧ Hid (w.heap.size < wr.heap.size) ∧ Hid (Copied wr w.heap.size h k kids) ∧ Hid (∀ j, j < kids.length * 5 → ∃ v, wr.cell? ⟨w.heap.size, j, none⟩ = some v) ∧ Hid (∀ j, wr.frozen? ⟨w.heap.size, j, none⟩ = false)) (fun i _ => kids.length - (intOf i).toNat)
  case atStart =>
    refine ⟨0, Nat.zero_le _, rfl, hide ((Bf.refl _ w).alloc (Nat.le_refl _) _), hide (by simp), hide (fun j _ hj => absurd hj (Nat.not_lt_zero _)), hide (fun j hj => ?_), hide (fun j => by simp)⟩
    rw [World.cell?_alloc_new]
    have : j < M.size := by rw [unhide HM]; exact hj
    exact ⟨_, Array.getElem?_eq_getElem this⟩
  case round =>
    obtain ⟨k, hk, rfl, HB, HZ, HD, HC, HF⟩ := hrel
    by_cases hp : k < kids.length
    · rcases (unhide HK).kept (unhide HB).toBelow (unhide HB).size with hq | ⟨b, off, rfl, hbl, hbn, hcs⟩
      · rw [hq] at hp; simp at hp
      obtain ⟨c0, c1, c2, c3, c4, d0, d1, d2, d3, d4, hr⟩ := hcs k hp
      have hs1 := wt_step kids k hp
      have hs3 := wt_le kids (k + 1)
      obtain ⟨e, he⟩ : ∃ e, kids[k] = e := ⟨_, rfl⟩
      rw [he] at hr hs1
      have hew : e.wt ≤ 1048576 := by have := unhide HT; omega
      have HR := hide hr
      have HE := hide he
      clear hcs hr hs1 hs3 he
      go_wp2_with fail
      refine (unhide HH _ e wr (unhide HR) hew).mono ?_
      rintro r w2 ⟨x0, x1, x2, x3, x4, rfl, hE2, hb2⟩
      obtain ⟨xk, xm, xn, xd, xa, xl, xc, rfl, rfl, rfl, rfl, rfl⟩ := hE2.form5
      have hz := unhide HZ
      have hcc : ∀ j, j < kids.length * 5 → ∃ v, w2.cell? ⟨w.heap.size, j, none⟩ = some v := fun j hj => by
        obtain ⟨v, hv⟩ := unhide HC j hj
        exact ⟨v, (hb2.cell (p := ⟨w.heap.size, j, none⟩) hz).trans hv⟩
      have hff : ∀ j, w2.frozen? ⟨w.heap.size, j, none⟩ = false := fun j => (hb2.frozen (p := ⟨w.heap.size, j, none⟩) hz).trans (unhide HF j)
      obtain ⟨y0, q0⟩ := hcc (k * 5) (by omega)
      obtain ⟨y1, q1⟩ := hcc (k * 5 + 1) (by omega)
      obtain ⟨y2, q2⟩ := hcc (k * 5 + 2) (by omega)
      obtain ⟨y3, q3⟩ := hcc (k * 5 + 3) (by omega)
      obtain ⟨y4, q4⟩ := hcc (k * 5 + 4) (by omega)
      have f0 := hff (k * 5)
      have f1 := hff (k * 5 + 1)
      have f2 := hff (k * 5 + 2)
      have f3 := hff (k * 5 + 3)
      have f4 := hff (k * 5 + 4)
      have HC2 := hide hcc
      have HF2 := hide hff
      have HE2 := hide hE2
      have HB2 := hide hb2
      clear hcc hff hE2 hb2 hz d0 d1 d2 d3 d4
      have HN : Hid (Copied (put5 w2 w.heap.size (k * 5) (.int .i64 xk) (.int .i64 xm) (.string xn) (.string xd) (.slice xa xl xc)) w.heap.size h (k + 1) kids) := hide (Copied.nextZ hp (unhide HD) (unhide HZ) (unhide HB2) (unhide HC2) (by rw [unhide HE]; exact unhide HE2))
      have HB3 := hide (((unhide HB).trans ((unhide HB2).mono (unhide HB).size)).trans (put5_belowZ w2 w.heap.size (k * 5) (.int .i64 xk) (.int .i64 xm) (.string xn) (.string xd) (.slice xa xl xc) (Nat.le_refl _)))
      have HZ3 : Hid (w.heap.size < (put5 w2 w.heap.size (k * 5) (.int .i64 xk) (.int .i64 xm) (.string xn) (.string xd) (.slice xa xl xc)).heap.size) := hide (by rw [put5_size]; have := (unhide HB2).size; have := unhide HZ; omega)
      have HF3 : Hid (∀ j, (put5 w2 w.heap.size (k * 5) (.int .i64 xk) (.int .i64 xm) (.string xn) (.string xd) (.slice xa xl xc)).frozen? ⟨w.heap.size, j, none⟩ = false) := hide (fun j => by rw [put5_frozen]; exact unhide HF2 j)
      have HC3 : Hid (∀ j, j < kids.length * 5 → ∃ v, (put5 w2 w.heap.size (k * 5) (.int .i64 xk) (.int .i64 xm) (.string xn) (.string xd) (.slice xa xl xc)).cell? ⟨w.heap.size, j, none⟩ = some v) := hide (fun j hj => by
        by_cases ho : j < k * 5 ∨ k * 5 + 5 ≤ j
        · rw [put5_other _ _ _ _ _ _ _ _ _ ho]; exact unhide HC2 j hj
        · obtain ⟨a0, a1, a2, a3, a4⟩ := put5_at w2 w.heap.size (k * 5) (.int .i64 xk) (.int .i64 xm) (.string xn) (.string xd) (.slice xa xl xc) (fun i h1 h2 => unhide HC2 i (by omega))
          have hj5 : j = k * 5 ∨ j = k * 5 + 1 ∨ j = k * 5 + 2 ∨ j = k * 5 + 3 ∨ j = k * 5 + 4 := by omega
          rcases hj5 with rfl | rfl | rfl | rfl | rfl
          · exact ⟨_, a0⟩
          · exact ⟨_, a1⟩
          · exact ⟨_, a2⟩
          · exact ⟨_, a3⟩
          · exact ⟨_, a4⟩)
      clear HD HC HF HB HZ HE2 HR
      go_wp2
      go_roundw
      case rel => exact ⟨k + 1, by omega, by go_num, HB3, HZ3, HN, HC3, HF3⟩
      case measure => simp [intOf] <;> omega
    · go_wp2
      go_ret
      refine ⟨_, _, rfl, .inr ⟨w.heap.size, 0, rfl, Nat.le_refl _, unhide HZ, fun j hj => ?_⟩, unhide HB⟩
      obtain ⟨c0, c1, c2, c3, c4, d0, d1, d2, d3, d4, hr⟩ := unhide HD j hj (by omega)
      refine ⟨c0, c1, c2, c3, c4, ?_, ?_, ?_, ?_, ?_, IsE.same (fun b h1 h2 => rfl) (by omega) (Nat.le_refl _) h _ _ hr⟩
      · rw [Nat.zero_add]; exact d0
      · rw [Nat.zero_add]; exact d1
      · rw [Nat.zero_add]; exact d2
      · rw [Nat.zero_add]; exact d3
      · rw [Nat.zero_add]; exact d4
set_option maxHeartbeats 1000000 in
theorem toTreeExpr_anyZ (lo : Nat) : ∀ h, ToEZ lo h := by
  intro h
  induction h with
  | zero => intro v e w hE; exact hE.elim
  | succ h ih =>
    intro v e w hE ht
    obtain ⟨kd, m, nm, md, kids⟩ := e
    obtain ⟨a, cap, rfl, hs, hk⟩ := hE
    rw [TE.wt] at ht
    have HS := hide (fun (w' : World) (hb : Bf w.heap.size w w') => toTreeExprS_ofZ lo h ih a cap kids w' (hk.kept hb.toBelow hb.size) (by omega))
    have HZ := hide hs
    clear hk ih ht hs
    go_enter Try.func52, Try.ntmps52
    go_wp2_with fail
    refine (unhide HS _ ((((Bf.refl _ w).alloc (Nat.le_refl _) _).alloc (by simp) _).alloc (by simp; omega) _)).mono ?_
    rintro r w2 ⟨a', cap', rfl, hk2, hb2⟩
    have hB : Bf w.heap.size w w2 := (((((Bf.refl _ w).alloc (Nat.le_refl _) _).alloc (by simp) _).alloc (by simp; omega) _)).trans (hb2.mono (by simp; omega))
    have hsz : w.heap.size + 3 ≤ w2.heap.size := by have := hb2.size; simpa using this
    have h3 : ∀ i, w2.cell? ⟨w.heap.size + 1 + 1, i, none⟩ = (#[Value.int .i64 kd, .int .i64 m, .string nm, .string md, .slice none 0 0] : Array Value)[i]? ∧ w2.frozen? ⟨w.heap.size + 1 + 1, i, none⟩ = false := fun i =>
      ⟨(hb2.cell (p := ⟨w.heap.size + 1 + 1, i, none⟩) (by rw [alloc_size, alloc_size, alloc_size]; exact Nat.lt_succ_self _)).trans (third _ _ _ _ _ _).1, (hb2.frozen (p := ⟨w.heap.size + 1 + 1, i, none⟩) (by rw [alloc_size, alloc_size, alloc_size]; exact Nat.lt_succ_self _)).trans (third _ _ _ _ _ _).2⟩
    have h2 : ∀ i, w2.cell? ⟨w.heap.size + 1, i, none⟩ = (#[Value.int .i64 0, .int .i64 0, .string ⟨#[]⟩, .string ⟨#[]⟩, .slice none 0 0] : Array Value)[i]? ∧ w2.frozen? ⟨w.heap.size + 1, i, none⟩ = false := fun i =>
      ⟨(hb2.cell (p := ⟨w.heap.size + 1, i, none⟩) (by rw [alloc_size, alloc_size, alloc_size]; exact Nat.lt_succ_of_lt (Nat.lt_succ_self _))).trans (second _ _ _ _ _ _).1, (hb2.frozen (p := ⟨w.heap.size + 1, i, none⟩) (by rw [alloc_size, alloc_size, alloc_size]; exact Nat.lt_succ_of_lt (Nat.lt_succ_self _))).trans (second _ _ _ _ _ _).2⟩
    have p0 : w2.cell? ⟨w.heap.size + 1 + 1, 0, none⟩ = some (.int .i64 kd) := (h3 0).1
    have p1 : w2.cell? ⟨w.heap.size + 1 + 1, 1, none⟩ = some (.int .i64 m) := (h3 1).1
    have p2 : w2.cell? ⟨w.heap.size + 1 + 1, 2, none⟩ = some (.string nm) := (h3 2).1
    have p3 : w2.cell? ⟨w.heap.size + 1 + 1, 3, none⟩ = some (.string md) := (h3 3).1
    have p4 : w2.cell? ⟨w.heap.size + 1 + 1, 4, none⟩ = some (.slice none 0 0) := (h3 4).1
    have p5 := (h3 4).2
    have r0 : w2.cell? ⟨w.heap.size + 1, 0, none⟩ = some (.int .i64 0) := (h2 0).1
    have r1 : w2.cell? ⟨w.heap.size + 1, 1, none⟩ = some (.int .i64 0) := (h2 1).1
    have r2 : w2.cell? ⟨w.heap.size + 1, 2, none⟩ = some (.string ⟨#[]⟩) := (h2 2).1
    have r3 : w2.cell? ⟨w.heap.size + 1, 3, none⟩ = some (.string ⟨#[]⟩) := (h2 3).1
    have r4 : w2.cell? ⟨w.heap.size + 1, 4, none⟩ = some (.slice none 0 0) := (h2 4).1
    have f0 := (h2 0).2
    have f1 := (h2 1).2
    have f2 := (h2 2).2
    have f3 := (h2 3).2
    have f4 := (h2 4).2
    have HB := hide hB
    have HK := hide hk2
    have HSZ := hide hsz
    have HB2 := hide hb2
    clear h3 h2 hB hk2 hsz hb2
    go_wp2
    have hcs := put5_at (w2.setCell ⟨w.heap.size + 1 + 1, 4, none⟩ (.slice a' kids.length cap')) (w.heap.size + 1) 0 (.int .i64 kd) (.int .i64 m) (.string nm) (.string md) (.slice a' kids.length cap') (fun j h1 h2 => by
      have e : (w2.setCell ⟨w.heap.size + 1 + 1, 4, none⟩ (.slice a' kids.length cap')).cell? ⟨w.heap.size + 1, j, none⟩ = w2.cell? ⟨w.heap.size + 1, j, none⟩ := World.cell?_setCell_other _ ⟨w.heap.size + 1 + 1, 4, none⟩ ⟨w.heap.size + 1, j, none⟩ _ (by simp)
      rw [e]
      have hj : j = 0 ∨ j = 1 ∨ j = 2 ∨ j = 3 ∨ j = 4 := by omega
      rcases hj with rfl | rfl | rfl | rfl | rfl
      · exact ⟨_, r0⟩
      · exact ⟨_, r1⟩
      · exact ⟨_, r2⟩
      · exact ⟨_, r3⟩
      · exact ⟨_, r4⟩)
    have hb4 : Bf w.heap.size w2 (put5 (w2.setCell ⟨w.heap.size + 1 + 1, 4, none⟩ (.slice a' kids.length cap')) (w.heap.size + 1) 0 (.int .i64 kd) (.int .i64 m) (.string nm) (.string md) (.slice a' kids.length cap')) := ((Bf.refl _ _).setCell (p := ⟨w.heap.size + 1 + 1, 4, none⟩) (by simp; omega) _).trans (put5_belowZ _ _ _ _ _ _ _ _ (by omega))
    have hs4 : Same (w.heap.size + 3) w2.heap.size w2 (put5 (w2.setCell ⟨w.heap.size + 1 + 1, 4, none⟩ (.slice a' kids.length cap')) (w.heap.size + 1) 0 (.int .i64 kd) (.int .i64 m) (.string nm) (.string md) (.slice a' kids.length cap')) := fun b h1 h2 => (put5_heap _ _ _ _ _ _ _ _ b (by omega)).trans (Below.heap_setCell _ ⟨w.heap.size + 1 + 1, 4, none⟩ _ _ (by simp; omega))
    have HCS := hide hcs
    simp only [Nat.zero_add] at hcs
    obtain ⟨e0, e1, e2, e3, e4⟩ := hcs
    refine bodyPost_ret (v := .agg #[.int .i64 kd, .int .i64 m, .string nm, .string md, .slice a' kids.length cap']) (by simp [results, Try.results52, go_sem, e0, e1, e2, e3, e4]) rfl ?_
    refine ⟨_, _, _, _, _, rfl, ⟨a', cap', rfl, unhide HZ, ?_⟩, (unhide HB).trans hb4⟩
    have hk3 := unhide HK
    rw [alloc_size, alloc_size, alloc_size] at hk3
    exact hk3.mono (IsE.same hs4 (by omega) hb4.size h) hs4 (by omega) hb4.size
end Go.Proofs.Ytkiaidjkhhljhaa
