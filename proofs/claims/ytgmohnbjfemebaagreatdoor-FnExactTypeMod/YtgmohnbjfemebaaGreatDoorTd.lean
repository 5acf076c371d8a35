/- The walks of toTreeExpr and toTreeExprS: a tree is copied. Conditions: the tree can be read, and weighs at most 2^20. -/
import Derived.Test.YtgmohnbjfemebaaGreatDoorTc
namespace Go.Proofs.YtgmohnbjfemebaaGreatDoor
open Go.RowKit Go.PlainAid

theorem einfo : (Tryz.prog.info? 31).map (fun i => (i.zero, i.size, i.bytes)) = some (some (.agg #[.int .i64 0, .int .i64 0, .string ⟨#[]⟩, .string ⟨#[]⟩, .slice none 0 0]), 5, 72) := by kernel_rfl
theorem make_exprs (n : Nat) (hn : n ≤ 1048576) : ∃ M : Array Value, M.size = n * 5 ∧ ∀ W : World, (Instr.makeSlice 25 (.int .i64 (n : Int)) (.int .i64 (n : Int))).run Tryz.prog W = .ok (.slice (some ⟨W.heap.size, 0, none⟩) n n) (W.alloc (.cells M 31)) := by
  obtain ⟨i0, hi, hz0, hz1, hz2⟩ := info_parts einfo
  refine ⟨madeCells (Value.agg #[.int .i64 0, .int .i64 0, .string ⟨#[]⟩, .string ⟨#[]⟩, .slice none 0 0]).cells (((n : Nat) : Int).toNat * i0.size), by rw [size_madeCells, hz1]; simp, fun W => ?_⟩
  have h := run_make (P := Tryz.prog) W 25 31 i0 _ Tryz.underlying25 hi hz0 .i64 .i64 (n : Int) (n : Int) (by omega) (by omega) (by rw [hz2]; omega) (by omega)
  simpa using h

theorem IsE.form {w : World} {lo n : Nat} : ∀ {h : Nat} {v : Value} {e : TE}, IsE w lo n h v e → ∃ (k m : Int) (nm md : ByteArray) (a : Option Addr) (len cap : Nat), v = .agg #[.int .i64 k, .int .i64 m, .string nm, .string md, .slice a len cap]
  | 0, _, _, hE => hE.elim
  | _ + 1, _, .node k m nm md _, ⟨a, cap, hv, _, _⟩ => ⟨k, m, nm, md, a, _, cap, hv⟩
theorem IsE.form5 {w : World} {lo n h : Nat} {c0 c1 c2 c3 c4 : Value} {e : TE} (hE : IsE w lo n h (.agg #[c0, c1, c2, c3, c4]) e) : ∃ (k m : Int) (nm md : ByteArray) (a : Option Addr) (len cap : Nat), c0 = .int .i64 k ∧ c1 = .int .i64 m ∧ c2 = .string nm ∧ c3 = .string md ∧ c4 = .slice a len cap := by
  obtain ⟨k, m, nm, md, a, len, cap, hv⟩ := hE.form
  simp only [Value.agg.injEq, Array.mk.injEq, List.cons.injEq] at hv
  exact ⟨k, m, nm, md, a, len, cap, hv.1, hv.2.1, hv.2.2.1, hv.2.2.2.1, hv.2.2.2.2.1⟩

/-- Five cells are written one behind the other. -/
abbrev put5 (w : World) (B o : Nat) (x0 x1 x2 x3 x4 : Value) : World := ((((w.setCell ⟨B, o, none⟩ x0).setCell ⟨B, o + 1, none⟩ x1).setCell ⟨B, o + 2, none⟩ x2).setCell ⟨B, o + 3, none⟩ x3).setCell ⟨B, o + 4, none⟩ x4
theorem put5_size (w : World) (B o : Nat) (x0 x1 x2 x3 x4 : Value) : (put5 w B o x0 x1 x2 x3 x4).heap.size = w.heap.size := by simp [put5, World.setCell]
theorem put5_heap (w : World) (B o : Nat) (x0 x1 x2 x3 x4 : Value) (b : Nat) (h : b ≠ B) : (put5 w B o x0 x1 x2 x3 x4).heap[b]? = w.heap[b]? := by
  unfold put5
  rw [Below.heap_setCell _ _ _ _ (by simpa using h), Below.heap_setCell _ _ _ _ (by simpa using h), Below.heap_setCell _ _ _ _ (by simpa using h), Below.heap_setCell _ _ _ _ (by simpa using h), Below.heap_setCell _ _ _ _ (by simpa using h)]
theorem put5_below (w : World) (B o : Nat) (x0 x1 x2 x3 x4 : Value) {n : Nat} (h : n ≤ B) : Below n w (put5 w B o x0 x1 x2 x3 x4) :=
  (((((Below.refl n w).setCell (p := ⟨B, o, none⟩) h _).setCell (p := ⟨B, o + 1, none⟩) h _).setCell (p := ⟨B, o + 2, none⟩) h _).setCell (p := ⟨B, o + 3, none⟩) h _).setCell (p := ⟨B, o + 4, none⟩) h _
theorem put5_frozen (w : World) (B o : Nat) (x0 x1 x2 x3 x4 : Value) (j : Nat) : (put5 w B o x0 x1 x2 x3 x4).frozen? ⟨B, j, none⟩ = w.frozen? ⟨B, j, none⟩ := by
  unfold put5
  rw [World.frozen?_setCell, World.frozen?_setCell, World.frozen?_setCell, World.frozen?_setCell, World.frozen?_setCell]
theorem cell_other (w : World) (B i j : Nat) (v : Value) (h : i ≠ j) : (w.setCell ⟨B, i, none⟩ v).cell? ⟨B, j, none⟩ = w.cell? ⟨B, j, none⟩ :=
  World.cell?_setCell_other _ ⟨B, i, none⟩ ⟨B, j, none⟩ _ (by simp <;> omega)
theorem put5_other (w : World) (B o : Nat) (x0 x1 x2 x3 x4 : Value) (j : Nat) (h : j < o ∨ o + 5 ≤ j) : (put5 w B o x0 x1 x2 x3 x4).cell? ⟨B, j, none⟩ = w.cell? ⟨B, j, none⟩ := by
  unfold put5
  rw [cell_other _ _ _ _ _ (by omega), cell_other _ _ _ _ _ (by omega), cell_other _ _ _ _ _ (by omega), cell_other _ _ _ _ _ (by omega), cell_other _ _ _ _ _ (by omega)]
theorem cell_same (w : World) (B i : Nat) (v : Value) (h : (w.cell? ⟨B, i, none⟩).isSome = true) : (w.setCell ⟨B, i, none⟩ v).cell? ⟨B, i, none⟩ = some v :=
  World.cell?_setCell_same' _ _ _ h
theorem put5_at (w : World) (B o : Nat) (x0 x1 x2 x3 x4 : Value) (h : ∀ j, o ≤ j → j < o + 5 → ∃ v, w.cell? ⟨B, j, none⟩ = some v) :
    (put5 w B o x0 x1 x2 x3 x4).cell? ⟨B, o, none⟩ = some x0 ∧ (put5 w B o x0 x1 x2 x3 x4).cell? ⟨B, o + 1, none⟩ = some x1 ∧ (put5 w B o x0 x1 x2 x3 x4).cell? ⟨B, o + 2, none⟩ = some x2 ∧ (put5 w B o x0 x1 x2 x3 x4).cell? ⟨B, o + 3, none⟩ = some x3 ∧ (put5 w B o x0 x1 x2 x3 x4).cell? ⟨B, o + 4, none⟩ = some x4 := by
  have hs : ∀ j, o ≤ j → j < o + 5 → (w.cell? ⟨B, j, none⟩).isSome = true := fun j h1 h2 => by obtain ⟨v, hv⟩ := h j h1 h2; rw [hv]; rfl
  unfold put5
  refine ⟨?_, ?_, ?_, ?_, ?_⟩
  · rw [cell_other _ _ _ _ _ (by omega), cell_other _ _ _ _ _ (by omega), cell_other _ _ _ _ _ (by omega), cell_other _ _ _ _ _ (by omega)]
    exact cell_same _ _ _ _ (hs _ (by omega) (by omega))
  · rw [cell_other _ _ _ _ _ (by omega), cell_other _ _ _ _ _ (by omega), cell_other _ _ _ _ _ (by omega)]
    exact cell_same _ _ _ _ (by rw [cell_other _ _ _ _ _ (by omega)]; exact hs _ (by omega) (by omega))
  · rw [cell_other _ _ _ _ _ (by omega), cell_other _ _ _ _ _ (by omega)]
    exact cell_same _ _ _ _ (by rw [cell_other _ _ _ _ _ (by omega), cell_other _ _ _ _ _ (by omega)]; exact hs _ (by omega) (by omega))
  · rw [cell_other _ _ _ _ _ (by omega)]
    exact cell_same _ _ _ _ (by rw [cell_other _ _ _ _ _ (by omega), cell_other _ _ _ _ _ (by omega), cell_other _ _ _ _ _ (by omega)]; exact hs _ (by omega) (by omega))
  · exact cell_same _ _ _ _ (by rw [cell_other _ _ _ _ _ (by omega), cell_other _ _ _ _ _ (by omega), cell_other _ _ _ _ _ (by omega), cell_other _ _ _ _ _ (by omega)]; exact hs _ (by omega) (by omega))

/-- The contract of toTreeExpr for trees at most h deep: a copy in new memory. -/
def ToE (lo h : Nat) : Prop := ∀ (v : Value) (e : TE) (w : World), IsE w lo w.heap.size h v e → e.wt ≤ 1048576 →
  Calls Tryz.prog 21 #[v] w fun r w' => ∃ c0 c1 c2 c3 c4 : Value, r = .returned (.agg #[c0, c1, c2, c3, c4]) ∧ IsE w' w.heap.size w'.heap.size h (.agg #[c0, c1, c2, c3, c4]) e ∧ Below w.heap.size w w'
/-- The first k kids lie copied in the block B. -/
def Copied (w : World) (B h k : Nat) (kids : List TE) : Prop := ∀ j (hj : j < kids.length), j < k → ∃ c0 c1 c2 c3 c4 : Value,
  w.cell? ⟨B, j * 5, none⟩ = some c0 ∧ w.cell? ⟨B, j * 5 + 1, none⟩ = some c1 ∧ w.cell? ⟨B, j * 5 + 2, none⟩ = some c2 ∧ w.cell? ⟨B, j * 5 + 3, none⟩ = some c3 ∧ w.cell? ⟨B, j * 5 + 4, none⟩ = some c4 ∧ IsE w (B + 1) w.heap.size h (.agg #[c0, c1, c2, c3, c4]) kids[j]

theorem Copied.next {w w2 : World} {B h k : Nat} {kids : List TE} {x0 x1 x2 x3 x4 : Value} (hp : k < kids.length) (hD : Copied w B h k kids) (hz : B < w.heap.size) (hb2 : Below w.heap.size w w2)
    (hc : ∀ j, j < kids.length * 5 → ∃ v, w2.cell? ⟨B, j, none⟩ = some v) (hE : IsE w2 w.heap.size w2.heap.size h (.agg #[x0, x1, x2, x3, x4]) (kids[k]'hp)) : Copied (put5 w2 B (k * 5) x0 x1 x2 x3 x4) B h (k + 1) kids := by
  intro j hj hjk
  have hs2 : Same (B + 1) w2.heap.size w2 (put5 w2 B (k * 5) x0 x1 x2 x3 x4) := fun b h1 h2 => put5_heap _ _ _ _ _ _ _ _ b (by omega)
  have hsz := put5_size w2 B (k * 5) x0 x1 x2 x3 x4
  by_cases e : j = k
  · subst e
    obtain ⟨a0, a1, a2, a3, a4⟩ := put5_at w2 B (j * 5) x0 x1 x2 x3 x4 (fun i h1 h2 => hc i (by omega))
    exact ⟨x0, x1, x2, x3, x4, a0, a1, a2, a3, a4, IsE.same (fun b h1 h2 => hs2 b (by omega) h2) (by omega) (by omega) h _ _ hE⟩
  · obtain ⟨c0, c1, c2, c3, c4, d0, d1, d2, d3, d4, hr⟩ := hD j hj (by omega)
    have hcc : ∀ i, i < k * 5 → (put5 w2 B (k * 5) x0 x1 x2 x3 x4).cell? ⟨B, i, none⟩ = w.cell? ⟨B, i, none⟩ := fun i hi =>
      (put5_other w2 B (k * 5) x0 x1 x2 x3 x4 i (by omega)).trans (hb2.cell (p := ⟨B, i, none⟩) hz)
    refine ⟨c0, c1, c2, c3, c4, (hcc _ (by omega)).trans d0, (hcc _ (by omega)).trans d1, (hcc _ (by omega)).trans d2, (hcc _ (by omega)).trans d3, (hcc _ (by omega)).trans d4, IsE.same (fun b h1 h2 => ?_) (Nat.le_refl _) (by have := hb2.size; omega) h _ _ hr⟩
    exact (hs2 b h1 (by have := hb2.size; omega)).trans (hb2.block b h2)

set_option maxHeartbeats 1000000 in
theorem toTreeExprS_of (lo h : Nat) (H : ToE lo h) (a : Option Addr) (cap : Nat) (kids : List TE) (w : World) (hk : IsKids (IsE w lo w.heap.size h) w lo w.heap.size a kids) (ht : kids.length + wtL kids ≤ 1048576) :
    Calls Tryz.prog 52 #[.slice a kids.length cap] w fun r w' => ∃ (a' : Option Addr) (cap' : Nat), r = .returned (.slice a' kids.length cap') ∧ IsKids (IsE w' w.heap.size w'.heap.size h) w' w.heap.size w'.heap.size a' kids ∧ Below w.heap.size w w' := by
  obtain ⟨M, hM, hmk⟩ := make_exprs kids.length (by omega)
  have HK := hide hk
  have HH := hide H
  have HT := hide ht
  have HM := hide hM
  have hl : kids.length ≤ 1048576 := by omega
  clear hk H ht hM
  go_enter Tryz.func52, Tryz.ntmps52
  go_wp2
  clear hmk
  go_loopw [4] (fun i wr => ∃ k : Nat, k ≤ kids.length ∧ i = .int .i64 k ∧ Hid (Below w.heap.size w wr) ∧ Hid (w.heap.size < wr.heap.size) ∧ Hid (Copied wr w.heap.size h k kids) ∧ Hid (∀ j, j < kids.length * 5 → ∃ v, wr.cell? ⟨w.heap.size, j, none⟩ = some v) ∧ Hid (∀ j, wr.frozen? ⟨w.heap.size, j, none⟩ = false)) (fun i _ => kids.length - (intOf i).toNat)
  case atStart =>
    refine ⟨0, Nat.zero_le _, rfl, hide ((Below.refl _ w).alloc (Nat.le_refl _) _), hide (by simp), hide (fun j _ hj => absurd hj (Nat.not_lt_zero _)), hide (fun j hj => ?_), hide (fun j => by simp)⟩
    rw [World.cell?_alloc_new]
    have : j < M.size := by rw [unhide HM]; exact hj
    exact ⟨_, Array.getElem?_eq_getElem this⟩
  case round =>
    obtain ⟨k, hk, rfl, HB, HZ, HD, HC, HF⟩ := hrel
    by_cases hp : k < kids.length
    · rcases (unhide HK).kept (unhide HB) (unhide HB).size with hq | ⟨b, off, rfl, hbl, hbn, hcs⟩
      · rw [hq] at hp; simp at hp
      obtain ⟨c0, c1, c2, c3, c4, d0, d1, d2, d3, d4, hr⟩ := hcs k hp
      have hs1 := wt_step kids k hp
      have hs3 := wt_le kids (k + 1)
      obtain ⟨e, he⟩ : ∃ e, kids[k] = e := ⟨_, rfl⟩
      rw [he] at hr hs1
      have hew : e.wt ≤ 1048576 := by have := unhide HT; omega
      have HR := hide hr
      have HE := hide he
      clear hcs hr hs1 hs3 he
      go_wp2_with fail
      refine (unhide HH _ e wr (unhide HR) hew).mono ?_
      rintro r w2 ⟨x0, x1, x2, x3, x4, rfl, hE2, hb2⟩
      obtain ⟨xk, xm, xn, xd, xa, xl, xc, rfl, rfl, rfl, rfl, rfl⟩ := hE2.form5
      have hz := unhide HZ
      have hcc : ∀ j, j < kids.length * 5 → ∃ v, w2.cell? ⟨w.heap.size, j, none⟩ = some v := fun j hj => by
        obtain ⟨v, hv⟩ := unhide HC j hj
        exact ⟨v, (hb2.cell (p := ⟨w.heap.size, j, none⟩) hz).trans hv⟩
      have hff : ∀ j, w2.frozen? ⟨w.heap.size, j, none⟩ = false := fun j => (hb2.frozen (p := ⟨w.heap.size, j, none⟩) hz).trans (unhide HF j)
      obtain ⟨y0, q0⟩ := hcc (k * 5) (by omega)
      obtain ⟨y1, q1⟩ := hcc (k * 5 + 1) (by omega)
      obtain ⟨y2, q2⟩ := hcc (k * 5 + 2) (by omega)
      obtain ⟨y3, q3⟩ := hcc (k * 5 + 3) (by omega)
      obtain ⟨y4, q4⟩ := hcc (k * 5 + 4) (by omega)
      have f0 := hff (k * 5)
      have f1 := hff (k * 5 + 1)
      have f2 := hff (k * 5 + 2)
      have f3 := hff (k * 5 + 3)
      have f4 := hff (k * 5 + 4)
      have HC2 := hide hcc
      have HF2 := hide hff
      have HE2 := hide hE2
      have HB2 := hide hb2
      clear hcc hff hE2 hb2 hz d0 d1 d2 d3 d4
      have HN : Hid (Copied (put5 w2 w.heap.size (k * 5) (.int .i64 xk) (.int .i64 xm) (.string xn) (.string xd) (.slice xa xl xc)) w.heap.size h (k + 1) kids) := hide (Copied.next hp (unhide HD) (unhide HZ) (unhide HB2) (unhide HC2) (by rw [unhide HE]; exact unhide HE2))
      have HB3 := hide (((unhide HB).trans ((unhide HB2).mono (unhide HB).size)).trans (put5_below w2 w.heap.size (k * 5) (.int .i64 xk) (.int .i64 xm) (.string xn) (.string xd) (.slice xa xl xc) (Nat.le_refl _)))
      have HZ3 : Hid (w.heap.size < (put5 w2 w.heap.size (k * 5) (.int .i64 xk) (.int .i64 xm) (.string xn) (.string xd) (.slice xa xl xc)).heap.size) := hide (by rw [put5_size]; have := (unhide HB2).size; have := unhide HZ; omega)
      have HF3 : Hid (∀ j, (put5 w2 w.heap.size (k * 5) (.int .i64 xk) (.int .i64 xm) (.string xn) (.string xd) (.slice xa xl xc)).frozen? ⟨w.heap.size, j, none⟩ = false) := hide (fun j => by rw [put5_frozen]; exact unhide HF2 j)
      have HC3 : Hid (∀ j, j < kids.length * 5 → ∃ v, (put5 w2 w.heap.size (k * 5) (.int .i64 xk) (.int .i64 xm) (.string xn) (.string xd) (.slice xa xl xc)).cell? ⟨w.heap.size, j, none⟩ = some v) := hide (fun j hj => by
        by_cases ho : j < k * 5 ∨ k * 5 + 5 ≤ j
        · rw [put5_other _ _ _ _ _ _ _ _ _ ho]; exact unhide HC2 j hj
        · obtain ⟨a0, a1, a2, a3, a4⟩ := put5_at w2 w.heap.size (k * 5) (.int .i64 xk) (.int .i64 xm) (.string xn) (.string xd) (.slice xa xl xc) (fun i h1 h2 => unhide HC2 i (by omega))
          have hj5 : j = k * 5 ∨ j = k * 5 + 1 ∨ j = k * 5 + 2 ∨ j = k * 5 + 3 ∨ j = k * 5 + 4 := by omega
          rcases hj5 with rfl | rfl | rfl | rfl | rfl
          · exact ⟨_, a0⟩
          · exact ⟨_, a1⟩
          · exact ⟨_, a2⟩
          · exact ⟨_, a3⟩
          · exact ⟨_, a4⟩)
      clear HD HC HF HB HZ HE2 HR
      go_wp2
      go_roundw
      case rel => exact ⟨k + 1, by omega, by go_num, HB3, HZ3, HN, HC3, HF3⟩
      case measure => simp [intOf] <;> omega
    · go_wp2
      go_ret
      refine ⟨_, _, rfl, .inr ⟨w.heap.size, 0, rfl, Nat.le_refl _, unhide HZ, fun j hj => ?_⟩, unhide HB⟩
      obtain ⟨c0, c1, c2, c3, c4, d0, d1, d2, d3, d4, hr⟩ := unhide HD j hj (by omega)
      refine ⟨c0, c1, c2, c3, c4, ?_, ?_, ?_, ?_, ?_, IsE.same (fun b h1 h2 => rfl) (by omega) (Nat.le_refl _) h _ _ hr⟩
      · rw [Nat.zero_add]; exact d0
      · rw [Nat.zero_add]; exact d1
      · rw [Nat.zero_add]; exact d2
      · rw [Nat.zero_add]; exact d3
      · rw [Nat.zero_add]; exact d4
end Go.Proofs.YtgmohnbjfemebaaGreatDoor
