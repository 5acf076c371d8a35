/- Rows of functions: the walks of szTreeFunS, eqTreeFunS, toTreeFunS. Conditions: the rows can be read. -/
import Derived.Test.YtgmohnbjfemebaaGreatDoorTk
namespace Go.Proofs.YtgmohnbjfemebaaGreatDoor
open Go.RowKit Go.PlainAid

/-- A row that can be read, all of it in the blocks from lo on and below n, each element as R says. -/
def IsFuns (R : Value → TF → Prop) (w : World) (lo n : Nat) (a : Option Addr) (xs : List TF) : Prop :=
  xs = [] ∨ ∃ b off : Nat, a = some ⟨b, off, none⟩ ∧ lo ≤ b ∧ b < n ∧ ∀ j (hj : j < xs.length), ∃ c0 c1 c2 c3 c4 c5 c6 c7 c8 : Value,
    w.cell? ⟨b, off + j * 9, none⟩ = some c0 ∧ w.cell? ⟨b, off + j * 9 + 1, none⟩ = some c1 ∧ w.cell? ⟨b, off + j * 9 + 2, none⟩ = some c2 ∧ w.cell? ⟨b, off + j * 9 + 3, none⟩ = some c3 ∧ w.cell? ⟨b, off + j * 9 + 4, none⟩ = some c4 ∧ w.cell? ⟨b, off + j * 9 + 5, none⟩ = some c5 ∧ w.cell? ⟨b, off + j * 9 + 6, none⟩ = some c6 ∧ w.cell? ⟨b, off + j * 9 + 7, none⟩ = some c7 ∧ w.cell? ⟨b, off + j * 9 + 8, none⟩ = some c8 ∧ R (.agg #[c0, c1, c2, c3, c4, c5, c6, c7, c8]) xs[j]
theorem IsFuns.mono {R R' : Value → TF → Prop} {w w' : World} {lo n lo' n' : Nat} {a : Option Addr} {xs : List TF} (h : IsFuns R w lo n a xs) (hR : ∀ v e, R v e → R' v e) (hs : Same lo n w w') (hl : lo' ≤ lo) (hn : n ≤ n') : IsFuns R' w' lo' n' a xs := by
  rcases h with h | ⟨b, off, h1, h0, h2, h3⟩
  · exact .inl h
  · refine .inr ⟨b, off, h1, by omega, by omega, fun j hj => ?_⟩
    obtain ⟨c0, c1, c2, c3, c4, c5, c6, c7, c8, d0, d1, d2, d3, d4, d5, d6, d7, d8, hr⟩ := h3 j hj
    have hc : ∀ o, w'.cell? ⟨b, o, none⟩ = w.cell? ⟨b, o, none⟩ := fun o => World.cell?_of_block (w := w) (hs b h0 h2)
    exact ⟨c0, c1, c2, c3, c4, c5, c6, c7, c8, (hc _).trans d0, (hc _).trans d1, (hc _).trans d2, (hc _).trans d3, (hc _).trans d4, (hc _).trans d5, (hc _).trans d6, (hc _).trans d7, (hc _).trans d8, hR _ _ hr⟩
theorem IsFuns.kept {h : Nat} {w w' : World} {lo n m : Nat} {a : Option Addr} {xs : List TF} (hk : IsFuns (IsFun w lo n h) w lo n a xs) (hb : Below n w w') (hnm : n ≤ m) : IsFuns (IsFun w' lo m h) w' lo m a xs :=
  hk.mono (fun v e he => IsFun.same h (Below.same hb) (Nat.le_refl _) hnm v e he) (Below.same hb) (Nat.le_refl _) hnm
def wtFuns (l : List TF) : Nat := (l.map TF.wt).sum
theorem wtFun_step (xs : List TF) (k : Nat) (h : k < xs.length) : wtFuns (xs.take (k + 1)) = wtFuns (xs.take k) + xs[k].wt := by
  unfold wtFuns; rw [List.take_succ_eq_append_getElem h, List.map_append, List.sum_append]; simp
theorem wtFun_le (xs : List TF) (k : Nat) : wtFuns (xs.take k) ≤ wtFuns xs := by
  have : wtFuns xs = wtFuns (xs.take k) + wtFuns (xs.drop k) := by
    unfold wtFuns
    conv => lhs; rw [← List.take_append_drop k xs]
    rw [List.map_append, List.sum_append]
  omega

/-- The contract of the element's weighing. -/
def SzFun (lo : Nat) (h : Nat) : Prop := ∀ (v : Value) (e : TF) (w : World) (left : Int), (IsFun w lo w.heap.size h) v e → 0 ≤ left → left ≤ 1048576 →
  Calls Tryz.prog 94 #[v, .int .i64 left] w fun r w' => r = .returned (.int .i64 (leftI left e.wt)) ∧ Below w.heap.size w w'

set_option maxHeartbeats 1000000 in
theorem szTreeFunS_of (lo : Nat) (h : Nat) (H : SzFun lo h) (a : Option Addr) (cap : Nat) (kids : List TF) (w : World) (left : Int) (hk : IsFuns (IsFun w lo w.heap.size h) w lo w.heap.size a kids) (hl : kids.length ≤ maxLen) (h0 : 0 ≤ left) (h1 : left ≤ 1048576) :
    Calls Tryz.prog 46 #[.slice a kids.length cap, .int .i64 left] w fun r w' => r = .returned (.int .i64 (leftI left (kids.length + wtFuns kids))) ∧ Below w.heap.size w w' := by
  unfold maxLen at hl
  have HK := hide hk
  have HH := hide H
  clear hk H
  by_cases hb : left < (kids.length : Int)
  · have HF := hide (left_no (left := left) (n := kids.length + wtFuns kids) (by omega))
    go_enter Tryz.func46, Tryz.ntmps46
    go_wp2
    go_ret
    exact ⟨ret_int (unhide HF).symm, Below.refl _ _⟩
  obtain ⟨L, hL⟩ := Int.eq_ofNat_of_zero_le (show 0 ≤ left - kids.length by omega)
  have HL := hide hL
  have hL2 : L ≤ 1048576 := by omega
  go_enter Tryz.func46, Tryz.ntmps46
  go_wp2
  go_loopw [1, 5] (fun l i wr => ∃ k M : Nat, k ≤ kids.length ∧ i = .int .i64 k ∧ l = .int .i64 M ∧ M ≤ 1048576 ∧ Hid (wtFuns (kids.take k) + M = L) ∧ Hid (Below w.heap.size w wr)) (fun _ i _ => kids.length - (intOf i).toNat)
  case atStart => exact ⟨0, L, Nat.zero_le _, rfl, by rw [← unhide HL], hL2, hide (by simp [wtFuns]), hide (Below.refl _ _)⟩
  case round =>
    obtain ⟨k, M, hk, rfl, rfl, hM, HS, HB⟩ := hrel
    by_cases hp : k < kids.length
    · rcases (unhide HK).kept (unhide HB) (unhide HB).size with hq | ⟨b, off, rfl, hbl, hbn, hcs⟩
      · rw [hq] at hp; simp at hp
      obtain ⟨c0, c1, c2, c3, c4, c5, c6, c7, c8, d0, d1, d2, d3, d4, d5, d6, d7, d8, hr⟩ := hcs k hp
      have hs1 := wtFun_step kids k hp
      have hs3 := wtFun_le kids (k + 1)
      generalize kids[k] = e at hr hs1
      have HR := hide hr
      have HX1 := hide hs1
      have HX3 := hide hs3
      clear hcs hr hs1 hs3
      go_wp2_with fail
      refine (unhide HH _ e wr M (unhide HR) (by omega) (by omega)).mono ?_
      rintro r w2 ⟨rfl, hb2⟩
      have HB2 := hide ((unhide HB).trans (hb2.mono (unhide HB).size))
      clear hb2 HB d0 d1 d2 d3 d4 d5 d6 d7 d8 HR
      by_cases hw : e.wt ≤ M
      · have el : leftI (M : Int) e.wt = ((M - e.wt : Nat) : Int) := by rw [left_yes (by omega)]; omega
        rw [el]
        obtain ⟨M', hM'⟩ : ∃ M', M - e.wt = M' := ⟨_, rfl⟩
        rw [hM']
        have HM := hide hM'
        have hM2 : M' ≤ 1048576 := by omega
        have HWT := hide hw
        clear el hM' hw
        go_wp2
        go_roundw
        case rel => exact ⟨k + 1, M', by omega, by go_num, rfl, hM2, hide (by rw [unhide HX1]; have := unhide HM; have := unhide HS; have := unhide HWT; omega), HB2⟩
        case measure => simp [intOf] <;> omega
      · have el : leftI (M : Int) e.wt = -1 := left_no (by omega)
        rw [el]
        have HF : Hid (leftI left (kids.length + wtFuns kids) = -1) := hide (left_no (by have := unhide HX1; have := unhide HX3; have := unhide HS; have := unhide HL; omega))
        clear el hw
        go_wp2
        go_ret
        exact ⟨ret_int (unhide HF).symm, unhide HB2⟩
    · have HF : Hid (leftI left (kids.length + wtFuns kids) = (M : Int)) := hide (by
        have e : kids.take k = kids := List.take_of_length_le (by omega)
        have h1 := unhide HS
        rw [e] at h1
        have h2 := unhide HL
        rw [left_yes (by omega)]; omega)
      go_wp2
      go_ret
      exact ⟨ret_int (unhide HF).symm, unhide HB⟩

/-- The contract of the element's comparing, at elements that are the same. -/
def EqFun (lo lo' : Nat) (h : Nat) (h' : Nat) : Prop := ∀ (v v' : Value) (e : TF) (w : World), (IsFun w lo w.heap.size h) v e → (IsFun w lo' w.heap.size h') v' e →
  Calls Tryz.prog 98 #[v, v'] w fun r w' => r = .returned (.bool true) ∧ Below w.heap.size w w'
set_option maxHeartbeats 1000000 in
theorem eqTreeFunS_of (lo lo' : Nat) (h : Nat) (h' : Nat) (H : EqFun lo lo' h h') (a a' : Option Addr) (cap cap' : Nat) (kids : List TF) (w : World) (hl : kids.length ≤ maxLen) (hk : IsFuns (IsFun w lo w.heap.size h) w lo w.heap.size a kids) (hk' : IsFuns (IsFun w lo' w.heap.size h') w lo' w.heap.size a' kids) :
    Calls Tryz.prog 56 #[.slice a kids.length cap, .slice a' kids.length cap'] w fun r w' => r = .returned (.bool true) ∧ Below w.heap.size w w' := by
  unfold maxLen at hl
  have HK := hide hk
  have HK' := hide hk'
  have HH := hide H
  have hq : ((kids.length : Int) != (kids.length : Int)) = false := by simp
  clear hk hk' H
  go_enter Tryz.func56, Tryz.ntmps56
  go_wp2
  go_loopw [5] (fun i wr => ∃ k : Nat, k ≤ kids.length ∧ i = .int .i64 k ∧ Hid (Below w.heap.size w wr)) (fun i _ => kids.length - (intOf i).toNat)
  case atStart => exact ⟨0, Nat.zero_le _, rfl, hide (Below.refl _ _)⟩
  case round =>
    obtain ⟨k, hk, rfl, HB⟩ := hrel
    by_cases hp : k < kids.length
    · rcases (unhide HK).kept (unhide HB) (unhide HB).size with hq | ⟨b, off, rfl, hbl, hbn, hcs⟩
      · rw [hq] at hp; simp at hp
      rcases (unhide HK').kept (unhide HB) (unhide HB).size with hq | ⟨b', off', rfl, hbl', hbn', hcs'⟩
      · rw [hq] at hp; simp at hp
      obtain ⟨c0, c1, c2, c3, c4, c5, c6, c7, c8, d0, d1, d2, d3, d4, d5, d6, d7, d8, hr⟩ := hcs k hp
      obtain ⟨c0', c1', c2', c3', c4', c5', c6', c7', c8', d0', d1', d2', d3', d4', d5', d6', d7', d8', hr'⟩ := hcs' k hp
      generalize kids[k] = e at hr hr'
      have HR := hide hr
      have HR' := hide hr'
      clear hcs hcs' hr hr'
      have HQ := hide (fun (W : World) (hb : Below wr.heap.size wr W) => unhide HH _ _ e W (IsFun.same h (Below.same hb) (Nat.le_refl _) hb.size _ _ (unhide HR)) (IsFun.same h' (Below.same hb) (Nat.le_refl _) hb.size _ _ (unhide HR')))
      clear HR HR'
      go_wp2
      go_region_with (go_at_call 98; refine (unhide HQ _ (Below.refl _ _).drew).mono ?_; rintro r w2 ⟨rfl, hb2⟩)
      all_goals
        go_wp2
        go_roundw
        case rel => exact ⟨k + 1, by omega, by go_num, hide ((unhide HB).drew.trans (hb2.mono (unhide HB).drew.size))⟩
        case measure => simp [intOf] <;> omega
    · go_wp2
      go_ret
      exact ⟨rfl, unhide HB⟩

/-- 9 cells are written one behind the other. -/
abbrev put9 (w : World) (B o : Nat) (x0 x1 x2 x3 x4 x5 x6 x7 x8 : Value) : World := ((((((((w.setCell ⟨B, o, none⟩ x0).setCell ⟨B, o + 1, none⟩ x1).setCell ⟨B, o + 2, none⟩ x2).setCell ⟨B, o + 3, none⟩ x3).setCell ⟨B, o + 4, none⟩ x4).setCell ⟨B, o + 5, none⟩ x5).setCell ⟨B, o + 6, none⟩ x6).setCell ⟨B, o + 7, none⟩ x7).setCell ⟨B, o + 8, none⟩ x8
theorem put9_size (w : World) (B o : Nat) (x0 x1 x2 x3 x4 x5 x6 x7 x8 : Value) : (put9 w B o x0 x1 x2 x3 x4 x5 x6 x7 x8).heap.size = w.heap.size := by simp [put9, World.setCell]
theorem put9_heap (w : World) (B o : Nat) (x0 x1 x2 x3 x4 x5 x6 x7 x8 : Value) (b : Nat) (h : b ≠ B) : (put9 w B o x0 x1 x2 x3 x4 x5 x6 x7 x8).heap[b]? = w.heap[b]? := by
  unfold put9
  rw [Below.heap_setCell _ _ _ _ (by simpa using h), Below.heap_setCell _ _ _ _ (by simpa using h), Below.heap_setCell _ _ _ _ (by simpa using h), Below.heap_setCell _ _ _ _ (by simpa using h), Below.heap_setCell _ _ _ _ (by simpa using h), Below.heap_setCell _ _ _ _ (by simpa using h), Below.heap_setCell _ _ _ _ (by simpa using h), Below.heap_setCell _ _ _ _ (by simpa using h), Below.heap_setCell _ _ _ _ (by simpa using h)]
theorem put9_below (w : World) (B o : Nat) (x0 x1 x2 x3 x4 x5 x6 x7 x8 : Value) {n : Nat} (h : n ≤ B) : Below n w (put9 w B o x0 x1 x2 x3 x4 x5 x6 x7 x8) :=
  ((((((((((Below.refl n w).setCell (p := ⟨B, o, none⟩) h _).setCell (p := ⟨B, o + 1, none⟩) h _).setCell (p := ⟨B, o + 2, none⟩) h _).setCell (p := ⟨B, o + 3, none⟩) h _).setCell (p := ⟨B, o + 4, none⟩) h _).setCell (p := ⟨B, o + 5, none⟩) h _).setCell (p := ⟨B, o + 6, none⟩) h _).setCell (p := ⟨B, o + 7, none⟩) h _).setCell (p := ⟨B, o + 8, none⟩) h _)
theorem put9_frozen (w : World) (B o : Nat) (x0 x1 x2 x3 x4 x5 x6 x7 x8 : Value) (j : Nat) : (put9 w B o x0 x1 x2 x3 x4 x5 x6 x7 x8).frozen? ⟨B, j, none⟩ = w.frozen? ⟨B, j, none⟩ := by
  unfold put9
  rw [World.frozen?_setCell, World.frozen?_setCell, World.frozen?_setCell, World.frozen?_setCell, World.frozen?_setCell, World.frozen?_setCell, World.frozen?_setCell, World.frozen?_setCell, World.frozen?_setCell]
theorem put9_other (w : World) (B o : Nat) (x0 x1 x2 x3 x4 x5 x6 x7 x8 : Value) (j : Nat) (h : j < o ∨ o + 9 ≤ j) : (put9 w B o x0 x1 x2 x3 x4 x5 x6 x7 x8).cell? ⟨B, j, none⟩ = w.cell? ⟨B, j, none⟩ := by
  unfold put9
  rw [cell_other _ _ _ _ _ (by omega), cell_other _ _ _ _ _ (by omega), cell_other _ _ _ _ _ (by omega), cell_other _ _ _ _ _ (by omega), cell_other _ _ _ _ _ (by omega), cell_other _ _ _ _ _ (by omega), cell_other _ _ _ _ _ (by omega), cell_other _ _ _ _ _ (by omega), cell_other _ _ _ _ _ (by omega)]
theorem put9_at (w : World) (B o : Nat) (x0 x1 x2 x3 x4 x5 x6 x7 x8 : Value) (h : ∀ j, o ≤ j → j < o + 9 → ∃ v, w.cell? ⟨B, j, none⟩ = some v) :
    (put9 w B o x0 x1 x2 x3 x4 x5 x6 x7 x8).cell? ⟨B, o, none⟩ = some x0 ∧ (put9 w B o x0 x1 x2 x3 x4 x5 x6 x7 x8).cell? ⟨B, o + 1, none⟩ = some x1 ∧ (put9 w B o x0 x1 x2 x3 x4 x5 x6 x7 x8).cell? ⟨B, o + 2, none⟩ = some x2 ∧ (put9 w B o x0 x1 x2 x3 x4 x5 x6 x7 x8).cell? ⟨B, o + 3, none⟩ = some x3 ∧ (put9 w B o x0 x1 x2 x3 x4 x5 x6 x7 x8).cell? ⟨B, o + 4, none⟩ = some x4 ∧ (put9 w B o x0 x1 x2 x3 x4 x5 x6 x7 x8).cell? ⟨B, o + 5, none⟩ = some x5 ∧ (put9 w B o x0 x1 x2 x3 x4 x5 x6 x7 x8).cell? ⟨B, o + 6, none⟩ = some x6 ∧ (put9 w B o x0 x1 x2 x3 x4 x5 x6 x7 x8).cell? ⟨B, o + 7, none⟩ = some x7 ∧ (put9 w B o x0 x1 x2 x3 x4 x5 x6 x7 x8).cell? ⟨B, o + 8, none⟩ = some x8 := by
  have hs : ∀ j, o ≤ j → j < o + 9 → (w.cell? ⟨B, j, none⟩).isSome = true := fun j h1 h2 => by obtain ⟨v, hv⟩ := h j h1 h2; rw [hv]; rfl
  unfold put9
  refine ⟨?_, ?_, ?_, ?_, ?_, ?_, ?_, ?_, ?_⟩
  · rw [cell_other _ _ _ _ _ (by omega), cell_other _ _ _ _ _ (by omega), cell_other _ _ _ _ _ (by omega), cell_other _ _ _ _ _ (by omega), cell_other _ _ _ _ _ (by omega), cell_other _ _ _ _ _ (by omega), cell_other _ _ _ _ _ (by omega), cell_other _ _ _ _ _ (by omega)]
    exact cell_same _ _ _ _ (hs _ (by omega) (by omega))
  · rw [cell_other _ _ _ _ _ (by omega), cell_other _ _ _ _ _ (by omega), cell_other _ _ _ _ _ (by omega), cell_other _ _ _ _ _ (by omega), cell_other _ _ _ _ _ (by omega), cell_other _ _ _ _ _ (by omega), cell_other _ _ _ _ _ (by omega)]
    exact cell_same _ _ _ _ (by rw [cell_other _ _ _ _ _ (by omega)]; exact hs _ (by omega) (by omega))
  · rw [cell_other _ _ _ _ _ (by omega), cell_other _ _ _ _ _ (by omega), cell_other _ _ _ _ _ (by omega), cell_other _ _ _ _ _ (by omega), cell_other _ _ _ _ _ (by omega), cell_other _ _ _ _ _ (by omega)]
    exact cell_same _ _ _ _ (by rw [cell_other _ _ _ _ _ (by omega), cell_other _ _ _ _ _ (by omega)]; exact hs _ (by omega) (by omega))
  · rw [cell_other _ _ _ _ _ (by omega), cell_other _ _ _ _ _ (by omega), cell_other _ _ _ _ _ (by omega), cell_other _ _ _ _ _ (by omega), cell_other _ _ _ _ _ (by omega)]
    exact cell_same _ _ _ _ (by rw [cell_other _ _ _ _ _ (by omega), cell_other _ _ _ _ _ (by omega), cell_other _ _ _ _ _ (by omega)]; exact hs _ (by omega) (by omega))
  · rw [cell_other _ _ _ _ _ (by omega), cell_other _ _ _ _ _ (by omega), cell_other _ _ _ _ _ (by omega), cell_other _ _ _ _ _ (by omega)]
    exact cell_same _ _ _ _ (by rw [cell_other _ _ _ _ _ (by omega), cell_other _ _ _ _ _ (by omega), cell_other _ _ _ _ _ (by omega), cell_other _ _ _ _ _ (by omega)]; exact hs _ (by omega) (by omega))
  · rw [cell_other _ _ _ _ _ (by omega), cell_other _ _ _ _ _ (by omega), cell_other _ _ _ _ _ (by omega)]
    exact cell_same _ _ _ _ (by rw [cell_other _ _ _ _ _ (by omega), cell_other _ _ _ _ _ (by omega), cell_other _ _ _ _ _ (by omega), cell_other _ _ _ _ _ (by omega), cell_other _ _ _ _ _ (by omega)]; exact hs _ (by omega) (by omega))
  · rw [cell_other _ _ _ _ _ (by omega), cell_other _ _ _ _ _ (by omega)]
    exact cell_same _ _ _ _ (by rw [cell_other _ _ _ _ _ (by omega), cell_other _ _ _ _ _ (by omega), cell_other _ _ _ _ _ (by omega), cell_other _ _ _ _ _ (by omega), cell_other _ _ _ _ _ (by omega), cell_other _ _ _ _ _ (by omega)]; exact hs _ (by omega) (by omega))
  · rw [cell_other _ _ _ _ _ (by omega)]
    exact cell_same _ _ _ _ (by rw [cell_other _ _ _ _ _ (by omega), cell_other _ _ _ _ _ (by omega), cell_other _ _ _ _ _ (by omega), cell_other _ _ _ _ _ (by omega), cell_other _ _ _ _ _ (by omega), cell_other _ _ _ _ _ (by omega), cell_other _ _ _ _ _ (by omega)]; exact hs _ (by omega) (by omega))
  · exact cell_same _ _ _ _ (by rw [cell_other _ _ _ _ _ (by omega), cell_other _ _ _ _ _ (by omega), cell_other _ _ _ _ _ (by omega), cell_other _ _ _ _ _ (by omega), cell_other _ _ _ _ _ (by omega), cell_other _ _ _ _ _ (by omega), cell_other _ _ _ _ _ (by omega), cell_other _ _ _ _ _ (by omega)]; exact hs _ (by omega) (by omega))
theorem infoFun : (Tryz.prog.info? 108).map (fun i => (i.zero, i.size, i.bytes)) = some (some (.agg #[.string ⟨#[]⟩, .bool false, .slice none 0 0, .int .i64 0, .int .i64 0, .int .i64 0, .string ⟨#[]⟩, .string ⟨#[]⟩, .slice none 0 0]), 9, 128) := by kernel_rfl
theorem makeFuns (n : Nat) (hn : n ≤ 1048576) : ∃ M : Array Value, M.size = n * 9 ∧ ∀ W : World, (Instr.makeSlice 24 (.int .i64 (n : Int)) (.int .i64 (n : Int))).run Tryz.prog W = .ok (.slice (some ⟨W.heap.size, 0, none⟩) n n) (W.alloc (.cells M 108)) := by
  obtain ⟨i0, hi, hz0, hz1, hz2⟩ := info_parts infoFun
  refine ⟨madeCells (Value.cells (.agg #[.string ⟨#[]⟩, .bool false, .slice none 0 0, .int .i64 0, .int .i64 0, .int .i64 0, .string ⟨#[]⟩, .string ⟨#[]⟩, .slice none 0 0])) (((n : Nat) : Int).toNat * i0.size), by rw [size_madeCells, hz1]; simp, fun W => ?_⟩
  have h := run_make (P := Tryz.prog) W 24 108 i0 _ Tryz.underlying24 hi hz0 .i64 .i64 (n : Int) (n : Int) (by omega) (by omega) (by rw [hz2]; omega) (by omega)
  simpa using h
/-- The contract of the element's copying. -/
def ToFun (lo : Nat) (h : Nat) : Prop := ∀ (v : Value) (e : TF) (w : World), (IsFun w lo w.heap.size h) v e → e.wt ≤ 1048576 →
  Calls Tryz.prog 96 #[v] w fun r w' => ∃ c0 c1 c2 c3 c4 c5 c6 c7 c8 : Value, r = .returned (.agg #[c0, c1, c2, c3, c4, c5, c6, c7, c8]) ∧ (IsFun w' w.heap.size w'.heap.size h) (.agg #[c0, c1, c2, c3, c4, c5, c6, c7, c8]) e ∧ Below w.heap.size w w'
/-- The first k elements lie copied in the block B. -/
def CopiedFun (w : World) (B : Nat) (h : Nat) (k : Nat) (kids : List TF) : Prop := ∀ j (hj : j < kids.length), j < k → ∃ c0 c1 c2 c3 c4 c5 c6 c7 c8 : Value,
  w.cell? ⟨B, j * 9, none⟩ = some c0 ∧ w.cell? ⟨B, j * 9 + 1, none⟩ = some c1 ∧ w.cell? ⟨B, j * 9 + 2, none⟩ = some c2 ∧ w.cell? ⟨B, j * 9 + 3, none⟩ = some c3 ∧ w.cell? ⟨B, j * 9 + 4, none⟩ = some c4 ∧ w.cell? ⟨B, j * 9 + 5, none⟩ = some c5 ∧ w.cell? ⟨B, j * 9 + 6, none⟩ = some c6 ∧ w.cell? ⟨B, j * 9 + 7, none⟩ = some c7 ∧ w.cell? ⟨B, j * 9 + 8, none⟩ = some c8 ∧ (IsFun w (B + 1) w.heap.size h) (.agg #[c0, c1, c2, c3, c4, c5, c6, c7, c8]) kids[j]
theorem CopiedFun.next {w w2 : World} {B : Nat} (h : Nat) {k : Nat} {kids : List TF} {x0 x1 x2 x3 x4 x5 x6 x7 x8 : Value} (hp : k < kids.length) (hD : CopiedFun w B h k kids) (hz : B < w.heap.size) (hb2 : Below w.heap.size w w2)
    (hc : ∀ j, j < kids.length * 9 → ∃ v, w2.cell? ⟨B, j, none⟩ = some v) (hE : (IsFun w2 w.heap.size w2.heap.size h) (.agg #[x0, x1, x2, x3, x4, x5, x6, x7, x8]) (kids[k]'hp)) : CopiedFun (put9 w2 B (k * 9) x0 x1 x2 x3 x4 x5 x6 x7 x8) B h (k + 1) kids := by
  intro j hj hjk
  have hs2 : Same (B + 1) w2.heap.size w2 (put9 w2 B (k * 9) x0 x1 x2 x3 x4 x5 x6 x7 x8) := fun b h1 h2 => put9_heap _ _ _ _ _ _ _ _ _ _ _ _ b (by omega)
  have hsz := put9_size w2 B (k * 9) x0 x1 x2 x3 x4 x5 x6 x7 x8
  by_cases e : j = k
  · subst e
    obtain ⟨a0, a1, a2, a3, a4, a5, a6, a7, a8⟩ := put9_at w2 B (j * 9) x0 x1 x2 x3 x4 x5 x6 x7 x8 (fun i h1 h2 => hc i (by omega))
    exact ⟨x0, x1, x2, x3, x4, x5, x6, x7, x8, a0, a1, a2, a3, a4, a5, a6, a7, a8, IsFun.same h (fun b h1 h2 => hs2 b (by omega) h2) (by omega) (by omega) _ _ hE⟩
  · obtain ⟨c0, c1, c2, c3, c4, c5, c6, c7, c8, d0, d1, d2, d3, d4, d5, d6, d7, d8, hr⟩ := hD j hj (by omega)
    have hcc : ∀ i, i < k * 9 → (put9 w2 B (k * 9) x0 x1 x2 x3 x4 x5 x6 x7 x8).cell? ⟨B, i, none⟩ = w.cell? ⟨B, i, none⟩ := fun i hi =>
      (put9_other w2 B (k * 9) x0 x1 x2 x3 x4 x5 x6 x7 x8 i (by omega)).trans (hb2.cell (p := ⟨B, i, none⟩) hz)
    refine ⟨c0, c1, c2, c3, c4, c5, c6, c7, c8, (hcc _ (by omega)).trans d0, (hcc _ (by omega)).trans d1, (hcc _ (by omega)).trans d2, (hcc _ (by omega)).trans d3, (hcc _ (by omega)).trans d4, (hcc _ (by omega)).trans d5, (hcc _ (by omega)).trans d6, (hcc _ (by omega)).trans d7, (hcc _ (by omega)).trans d8, IsFun.same h (fun b h1 h2 => ?_) (Nat.le_refl _) (by have := hb2.size; omega) _ _ hr⟩
    exact (hs2 b h1 (by have := hb2.size; omega)).trans (hb2.block b h2)

set_option maxHeartbeats 1000000 in
theorem toTreeFunS_of (lo : Nat) (h : Nat) (H : ToFun lo h) (a : Option Addr) (cap : Nat) (kids : List TF) (w : World) (hk : IsFuns (IsFun w lo w.heap.size h) w lo w.heap.size a kids) (ht : kids.length + wtFuns kids ≤ 1048576) :
    Calls Tryz.prog 51 #[.slice a kids.length cap] w fun r w' => ∃ (a' : Option Addr) (cap' : Nat), r = .returned (.slice a' kids.length cap') ∧ IsFuns (IsFun w' w.heap.size w'.heap.size h) w' w.heap.size w'.heap.size a' kids ∧ Below w.heap.size w w' := by
  obtain ⟨M, hM, hmk⟩ := makeFuns kids.length (by omega)
  have HK := hide hk
  have HH := hide H
  have HT := hide ht
  have HM := hide hM
  have hl : kids.length ≤ 1048576 := by omega
  clear hk H ht hM
  go_enter Tryz.func51, Tryz.ntmps51
  go_wp2
  clear hmk
  go_loopw [4] (fun i wr => ∃ k : Nat, k ≤ kids.length ∧ i = .int .i64 k ∧ Hid (Below w.heap.size w wr) ∧ Hid (w.heap.size < wr.heap.size) ∧ Hid (CopiedFun wr w.heap.size h k kids) ∧ Hid (∀ j, j < kids.length * 9 → ∃ v, wr.cell? ⟨w.heap.size, j, none⟩ = some v) ∧ Hid (∀ j, wr.frozen? ⟨w.heap.size, j, none⟩ = false)) (fun i _ => kids.length - (intOf i).toNat)
  case atStart =>
    refine ⟨0, Nat.zero_le _, rfl, hide ((Below.refl _ w).alloc (Nat.le_refl _) _), hide (by simp), hide (fun j _ hj => absurd hj (Nat.not_lt_zero _)), hide (fun j hj => ?_), hide (fun j => by simp)⟩
    rw [World.cell?_alloc_new]
    have : j < M.size := by rw [unhide HM]; exact hj
    exact ⟨_, Array.getElem?_eq_getElem this⟩
  case round =>
    obtain ⟨k, hk, rfl, HB, HZ, HD, HC, HF⟩ := hrel
    by_cases hp : k < kids.length
    · rcases (unhide HK).kept (unhide HB) (unhide HB).size with hq | ⟨b, off, rfl, hbl, hbn, hcs⟩
      · rw [hq] at hp; simp at hp
      obtain ⟨c0, c1, c2, c3, c4, c5, c6, c7, c8, d0, d1, d2, d3, d4, d5, d6, d7, d8, hr⟩ := hcs k hp
      have hs1 := wtFun_step kids k hp
      have hs3 := wtFun_le kids (k + 1)
      obtain ⟨e, he⟩ : ∃ e, kids[k] = e := ⟨_, rfl⟩
      rw [he] at hr hs1
      have hew : e.wt ≤ 1048576 := by have := unhide HT; omega
      have HR := hide hr
      have HE := hide he
      clear hcs hr hs1 hs3 he
      go_wp2_with fail
      refine (unhide HH _ e wr (unhide HR) hew).mono ?_
      rintro r w2 ⟨x0, x1, x2, x3, x4, x5, x6, x7, x8, rfl, hE2, hb2⟩
      obtain ⟨xs, xp, xa, xl, xc, xt, xk, xm, xn, xd, ya, yl, yc, rfl, rfl, rfl, rfl, rfl, rfl, rfl, rfl, rfl⟩ := IsFun.form h hE2
      have hz := unhide HZ
      have hcc : ∀ j, j < kids.length * 9 → ∃ v, w2.cell? ⟨w.heap.size, j, none⟩ = some v := fun j hj => by
        obtain ⟨v, hv⟩ := unhide HC j hj
        exact ⟨v, (hb2.cell (p := ⟨w.heap.size, j, none⟩) hz).trans hv⟩
      have hff : ∀ j, w2.frozen? ⟨w.heap.size, j, none⟩ = false := fun j => (hb2.frozen (p := ⟨w.heap.size, j, none⟩) hz).trans (unhide HF j)
      obtain ⟨y0, q0⟩ := hcc (k * 9) (by omega)
      have f0 := hff (k * 9)
      obtain ⟨y1, q1⟩ := hcc (k * 9 + 1) (by omega)
      have f1 := hff (k * 9 + 1)
      obtain ⟨y2, q2⟩ := hcc (k * 9 + 2) (by omega)
      have f2 := hff (k * 9 + 2)
      obtain ⟨y3, q3⟩ := hcc (k * 9 + 3) (by omega)
      have f3 := hff (k * 9 + 3)
      obtain ⟨y4, q4⟩ := hcc (k * 9 + 4) (by omega)
      have f4 := hff (k * 9 + 4)
      obtain ⟨y5, q5⟩ := hcc (k * 9 + 5) (by omega)
      have f5 := hff (k * 9 + 5)
      obtain ⟨y6, q6⟩ := hcc (k * 9 + 6) (by omega)
      have f6 := hff (k * 9 + 6)
      obtain ⟨y7, q7⟩ := hcc (k * 9 + 7) (by omega)
      have f7 := hff (k * 9 + 7)
      obtain ⟨y8, q8⟩ := hcc (k * 9 + 8) (by omega)
      have f8 := hff (k * 9 + 8)
      have HC2 := hide hcc
      have HF2 := hide hff
      have HE2 := hide hE2
      have HB2 := hide hb2
      clear hcc hff hE2 hb2 hz d0 d1 d2 d3 d4 d5 d6 d7 d8
      have HN : Hid (CopiedFun (put9 w2 w.heap.size (k * 9) (.string xs) (.bool xp) (.slice xa xl xc) (.int .i64 xt) (.int .i64 xk) (.int .i64 xm) (.string xn) (.string xd) (.slice ya yl yc)) w.heap.size h (k + 1) kids) := hide (CopiedFun.next h hp (unhide HD) (unhide HZ) (unhide HB2) (unhide HC2) (by rw [unhide HE]; exact unhide HE2))
      have HB3 := hide (((unhide HB).trans ((unhide HB2).mono (unhide HB).size)).trans (put9_below w2 w.heap.size (k * 9) (.string xs) (.bool xp) (.slice xa xl xc) (.int .i64 xt) (.int .i64 xk) (.int .i64 xm) (.string xn) (.string xd) (.slice ya yl yc) (Nat.le_refl _)))
      have HZ3 : Hid (w.heap.size < (put9 w2 w.heap.size (k * 9) (.string xs) (.bool xp) (.slice xa xl xc) (.int .i64 xt) (.int .i64 xk) (.int .i64 xm) (.string xn) (.string xd) (.slice ya yl yc)).heap.size) := hide (by rw [put9_size]; have := (unhide HB2).size; have := unhide HZ; omega)
      have HF3 : Hid (∀ j, (put9 w2 w.heap.size (k * 9) (.string xs) (.bool xp) (.slice xa xl xc) (.int .i64 xt) (.int .i64 xk) (.int .i64 xm) (.string xn) (.string xd) (.slice ya yl yc)).frozen? ⟨w.heap.size, j, none⟩ = false) := hide (fun j => by rw [put9_frozen]; exact unhide HF2 j)
      have HC3 : Hid (∀ j, j < kids.length * 9 → ∃ v, (put9 w2 w.heap.size (k * 9) (.string xs) (.bool xp) (.slice xa xl xc) (.int .i64 xt) (.int .i64 xk) (.int .i64 xm) (.string xn) (.string xd) (.slice ya yl yc)).cell? ⟨w.heap.size, j, none⟩ = some v) := hide (fun j hj => by
        by_cases ho : j < k * 9 ∨ k * 9 + 9 ≤ j
        · rw [put9_other _ _ _ _ _ _ _ _ _ _ _ _ _ ho]; exact unhide HC2 j hj
        · obtain ⟨a0, a1, a2, a3, a4, a5, a6, a7, a8⟩ := put9_at w2 w.heap.size (k * 9) (.string xs) (.bool xp) (.slice xa xl xc) (.int .i64 xt) (.int .i64 xk) (.int .i64 xm) (.string xn) (.string xd) (.slice ya yl yc) (fun i h1 h2 => unhide HC2 i (by omega))
          have hj5 : j = k * 9 ∨ j = k * 9 + 1 ∨ j = k * 9 + 2 ∨ j = k * 9 + 3 ∨ j = k * 9 + 4 ∨ j = k * 9 + 5 ∨ j = k * 9 + 6 ∨ j = k * 9 + 7 ∨ j = k * 9 + 8 := by omega
          rcases hj5 with rfl | rfl | rfl | rfl | rfl | rfl | rfl | rfl | rfl
          · exact ⟨_, a0⟩
          · exact ⟨_, a1⟩
          · exact ⟨_, a2⟩
          · exact ⟨_, a3⟩
          · exact ⟨_, a4⟩
          · exact ⟨_, a5⟩
          · exact ⟨_, a6⟩
          · exact ⟨_, a7⟩
          · exact ⟨_, a8⟩)
      clear HD HC HF HB HZ HE2 HR
      go_wp2
      go_roundw
      case rel => exact ⟨k + 1, by omega, by go_num, HB3, HZ3, HN, HC3, HF3⟩
      case measure => simp [intOf] <;> omega
    · go_wp2
      go_ret
      refine ⟨_, _, rfl, .inr ⟨w.heap.size, 0, rfl, Nat.le_refl _, unhide HZ, fun j hj => ?_⟩, unhide HB⟩
      obtain ⟨c0, c1, c2, c3, c4, c5, c6, c7, c8, d0, d1, d2, d3, d4, d5, d6, d7, d8, hr⟩ := unhide HD j hj (by omega)
      refine ⟨c0, c1, c2, c3, c4, c5, c6, c7, c8, ?_, ?_, ?_, ?_, ?_, ?_, ?_, ?_, ?_, IsFun.same h (fun b h1 h2 => rfl) (by omega) (Nat.le_refl _) _ _ hr⟩
      · rw [Nat.zero_add]; exact d0
      · rw [Nat.zero_add]; exact d1
      · rw [Nat.zero_add]; exact d2
      · rw [Nat.zero_add]; exact d3
      · rw [Nat.zero_add]; exact d4
      · rw [Nat.zero_add]; exact d5
      · rw [Nat.zero_add]; exact d6
      · rw [Nat.zero_add]; exact d7
      · rw [Nat.zero_add]; exact d8
end Go.Proofs.YtgmohnbjfemebaaGreatDoor
