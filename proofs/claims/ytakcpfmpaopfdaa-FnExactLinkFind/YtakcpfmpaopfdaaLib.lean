/- Rows of parts: the walks of szLinkPartS, eqLinkPartS, toLinkPartS. Conditions: the rows can be read. -/
import Derived.Test.YtakcpfmpaopfdaaLia
namespace Go.Proofs.Ytakcpfmpaopfdaa
open Go.RowKit Go.PlainAid

/-- A row that can be read, all of it in the blocks from lo on and below n, each element as R says. -/
def IsPas (R : Value → TP → Prop) (w : World) (lo n : Nat) (a : Option Addr) (xs : List TP) : Prop :=
  xs = [] ∨ ∃ b off : Nat, a = some ⟨b, off, none⟩ ∧ lo ≤ b ∧ b < n ∧ ∀ j (hj : j < xs.length), ∃ c0 c1 c2 : Value,
    w.cell? ⟨b, off + j * 3, none⟩ = some c0 ∧ w.cell? ⟨b, off + j * 3 + 1, none⟩ = some c1 ∧ w.cell? ⟨b, off + j * 3 + 2, none⟩ = some c2 ∧ R (.agg #[c0, c1, c2]) xs[j]
theorem IsPas.mono {R R' : Value → TP → Prop} {w w' : World} {lo n lo' n' : Nat} {a : Option Addr} {xs : List TP} (h : IsPas R w lo n a xs) (hR : ∀ v e, R v e → R' v e) (hs : Same lo n w w') (hl : lo' ≤ lo) (hn : n ≤ n') : IsPas R' w' lo' n' a xs := by
  rcases h with h | ⟨b, off, h1, h0, h2, h3⟩
  · exact .inl h
  · refine .inr ⟨b, off, h1, by omega, by omega, fun j hj => ?_⟩
    obtain ⟨c0, c1, c2, d0, d1, d2, hr⟩ := h3 j hj
    have hc : ∀ o, w'.cell? ⟨b, o, none⟩ = w.cell? ⟨b, o, none⟩ := fun o => World.cell?_of_block (w := w) (hs b h0 h2)
    exact ⟨c0, c1, c2, (hc _).trans d0, (hc _).trans d1, (hc _).trans d2, hR _ _ hr⟩
theorem IsPas.kept  {w w' : World} {lo n m : Nat} {a : Option Addr} {xs : List TP} (hk : IsPas (IsPa w lo n) w lo n a xs) (hb : Below n w w') (hnm : n ≤ m) : IsPas (IsPa w' lo m) w' lo m a xs :=
  hk.mono (fun v e he => IsPa.same  (Below.same hb) (Nat.le_refl _) hnm v e he) (Below.same hb) (Nat.le_refl _) hnm
def wtPas (l : List TP) : Nat := (l.map TP.wt).sum
theorem wtPa_step (xs : List TP) (k : Nat) (h : k < xs.length) : wtPas (xs.take (k + 1)) = wtPas (xs.take k) + xs[k].wt := by
  unfold wtPas; rw [List.take_succ_eq_append_getElem h, List.map_append, List.sum_append]; simp
theorem wtPa_le (xs : List TP) (k : Nat) : wtPas (xs.take k) ≤ wtPas xs := by
  have : wtPas xs = wtPas (xs.take k) + wtPas (xs.drop k) := by
    unfold wtPas
    conv => lhs; rw [← List.take_append_drop k xs]
    rw [List.map_append, List.sum_append]
  omega

/-- The contract of the element's weighing. -/
def SzPa (lo : Nat)  : Prop := ∀ (v : Value) (e : TP) (w : World) (left : Int), (IsPa w lo w.heap.size) v e → 0 ≤ left → left ≤ 1048576 →
  Calls Try.prog 9 #[v, .int .i64 left] w fun r w' => r = .returned (.int .i64 (leftI left e.wt)) ∧ Below w.heap.size w w'

set_option maxHeartbeats 1000000 in
theorem szTreePaS_of (lo : Nat)  (H : SzPa lo ) (a : Option Addr) (cap : Nat) (kids : List TP) (w : World) (left : Int) (hk : IsPas (IsPa w lo w.heap.size) w lo w.heap.size a kids) (hl : kids.length ≤ maxLen) (h0 : 0 ≤ left) (h1 : left ≤ 1048576) :
    Calls Try.prog 4 #[.slice a kids.length cap, .int .i64 left] w fun r w' => r = .returned (.int .i64 (leftI left (kids.length + wtPas kids))) ∧ Below w.heap.size w w' := by
  unfold maxLen at hl
  have HK := hide hk
  have HH := hide H
  clear hk H
  by_cases hb : left < (kids.length : Int)
  · have HF := hide (left_no (left := left) (n := kids.length + wtPas kids) (by omega))
    go_enter Try.func4, Try.ntmps4
    go_wp2
    go_ret
    exact ⟨ret_int (unhide HF).symm, Below.refl _ _⟩
  obtain ⟨L, hL⟩ := Int.eq_ofNat_of_zero_le (show 0 ≤ left - kids.length by omega)
  have HL := hide hL
  have hL2 : L ≤ 1048576 := by omega
  go_enter Try.func4, Try.ntmps4
  go_wp2
  go_loopw [1, 5] (fun l i wr => ∃ k M : Nat, k ≤ kids.length ∧ i = .int .i64 k ∧ l = .int .i64 M ∧ M ≤ 1048576 ∧ Hid (wtPas (kids.take k) + M = L) ∧ Hid (Below w.heap.size w wr)) (fun _ i _ => kids.length - (intOf i).toNat)
  case atStart => exact ⟨0, L, Nat.zero_le _, rfl, by rw [← unhide HL], hL2, hide (by simp [wtPas]), hide (Below.refl _ _)⟩
  case round =>
    obtain ⟨k, M, hk, rfl, rfl, hM, HS, HB⟩ := hrel
    by_cases hp : k < kids.length
    · rcases (unhide HK).kept (unhide HB) (unhide HB).size with hq | ⟨b, off, rfl, hbl, hbn, hcs⟩
      · rw [hq] at hp; simp at hp
      obtain ⟨c0, c1, c2, d0, d1, d2, hr⟩ := hcs k hp
      have hs1 := wtPa_step kids k hp
      have hs3 := wtPa_le kids (k + 1)
      generalize kids[k] = e at hr hs1
      have HR := hide hr
      have HX1 := hide hs1
      have HX3 := hide hs3
      clear hcs hr hs1 hs3
      go_wp2_with fail
      refine (unhide HH _ e wr M (unhide HR) (by omega) (by omega)).mono ?_
      rintro r w2 ⟨rfl, hb2⟩
      have HB2 := hide ((unhide HB).trans (hb2.mono (unhide HB).size))
      clear hb2 HB d0 d1 d2 HR
      by_cases hw : e.wt ≤ M
      · have el : leftI (M : Int) e.wt = ((M - e.wt : Nat) : Int) := by rw [left_yes (by omega)]; omega
        rw [el]
        obtain ⟨M', hM'⟩ : ∃ M', M - e.wt = M' := ⟨_, rfl⟩
        rw [hM']
        have HM := hide hM'
        have hM2 : M' ≤ 1048576 := by omega
        have HWT := hide hw
        clear el hM' hw
        go_wp2
        go_roundw
        case rel => exact ⟨k + 1, M', by omega, by go_num, rfl, hM2, hide (by rw [unhide HX1]; have := unhide HM; have := unhide HS; have := unhide HWT; omega), HB2⟩
        case measure => simp [intOf] <;> omega
      · have el : leftI (M : Int) e.wt = -1 := left_no (by omega)
        rw [el]
        have HF : Hid (leftI left (kids.length + wtPas kids) = -1) := hide (left_no (by have := unhide HX1; have := unhide HX3; have := unhide HS; have := unhide HL; omega))
        clear el hw
        go_wp2
        go_ret
        exact ⟨ret_int (unhide HF).symm, unhide HB2⟩
    · have HF : Hid (leftI left (kids.length + wtPas kids) = (M : Int)) := hide (by
        have e : kids.take k = kids := List.take_of_length_le (by omega)
        have h1 := unhide HS
        rw [e] at h1
        have h2 := unhide HL
        rw [left_yes (by omega)]; omega)
      go_wp2
      go_ret
      exact ⟨ret_int (unhide HF).symm, unhide HB⟩

/-- The contract of the element's comparing, at elements that are the same. -/
def EqPa (lo lo' : Nat)   : Prop := ∀ (v v' : Value) (e : TP) (w : World), (IsPa w lo w.heap.size) v e → (IsPa w lo' w.heap.size) v' e →
  Calls Try.prog 15 #[v, v'] w fun r w' => r = .returned (.bool true) ∧ Below w.heap.size w w'
set_option maxHeartbeats 1000000 in
theorem eqTreePaS_of (lo lo' : Nat)   (H : EqPa lo lo'  ) (a a' : Option Addr) (cap cap' : Nat) (kids : List TP) (w : World) (hl : kids.length ≤ maxLen) (hk : IsPas (IsPa w lo w.heap.size) w lo w.heap.size a kids) (hk' : IsPas (IsPa w lo' w.heap.size) w lo' w.heap.size a' kids) :
    Calls Try.prog 8 #[.slice a kids.length cap, .slice a' kids.length cap'] w fun r w' => r = .returned (.bool true) ∧ Below w.heap.size w w' := by
  unfold maxLen at hl
  have HK := hide hk
  have HK' := hide hk'
  have HH := hide H
  have hq : ((kids.length : Int) != (kids.length : Int)) = false := by simp
  clear hk hk' H
  go_enter Try.func8, Try.ntmps8
  go_wp2
  go_loopw [5] (fun i wr => ∃ k : Nat, k ≤ kids.length ∧ i = .int .i64 k ∧ Hid (Below w.heap.size w wr)) (fun i _ => kids.length - (intOf i).toNat)
  case atStart => exact ⟨0, Nat.zero_le _, rfl, hide (Below.refl _ _)⟩
  case round =>
    obtain ⟨k, hk, rfl, HB⟩ := hrel
    by_cases hp : k < kids.length
    · rcases (unhide HK).kept (unhide HB) (unhide HB).size with hq | ⟨b, off, rfl, hbl, hbn, hcs⟩
      · rw [hq] at hp; simp at hp
      rcases (unhide HK').kept (unhide HB) (unhide HB).size with hq | ⟨b', off', rfl, hbl', hbn', hcs'⟩
      · rw [hq] at hp; simp at hp
      obtain ⟨c0, c1, c2, d0, d1, d2, hr⟩ := hcs k hp
      obtain ⟨c0', c1', c2', d0', d1', d2', hr'⟩ := hcs' k hp
      generalize kids[k] = e at hr hr'
      have HR := hide hr
      have HR' := hide hr'
      clear hcs hcs' hr hr'
      have HQ := hide (fun (W : World) (hb : Below wr.heap.size wr W) => unhide HH _ _ e W (IsPa.same  (Below.same hb) (Nat.le_refl _) hb.size _ _ (unhide HR)) (IsPa.same  (Below.same hb) (Nat.le_refl _) hb.size _ _ (unhide HR')))
      clear HR HR'
      go_wp2
      go_region_with (go_at_call 15; refine (unhide HQ _ (Below.refl _ _).drew).mono ?_; rintro r w2 ⟨rfl, hb2⟩)
      all_goals
        go_wp2
        go_roundw
        case rel => exact ⟨k + 1, by omega, by go_num, hide ((unhide HB).drew.trans (hb2.mono (unhide HB).drew.size))⟩
        case measure => simp [intOf] <;> omega
    · go_wp2
      go_ret
      exact ⟨rfl, unhide HB⟩

/-- 3 cells are written one behind the other. -/
abbrev put3 (w : World) (B o : Nat) (x0 x1 x2 : Value) : World := ((w.setCell ⟨B, o, none⟩ x0).setCell ⟨B, o + 1, none⟩ x1).setCell ⟨B, o + 2, none⟩ x2
theorem put3_size (w : World) (B o : Nat) (x0 x1 x2 : Value) : (put3 w B o x0 x1 x2).heap.size = w.heap.size := by simp [put3, World.setCell]
theorem put3_heap (w : World) (B o : Nat) (x0 x1 x2 : Value) (b : Nat) (h : b ≠ B) : (put3 w B o x0 x1 x2).heap[b]? = w.heap[b]? := by
  unfold put3
  rw [Below.heap_setCell _ _ _ _ (by simpa using h), Below.heap_setCell _ _ _ _ (by simpa using h), Below.heap_setCell _ _ _ _ (by simpa using h)]
theorem put3_below (w : World) (B o : Nat) (x0 x1 x2 : Value) {n : Nat} (h : n ≤ B) : Below n w (put3 w B o x0 x1 x2) :=
  ((((Below.refl n w).setCell (p := ⟨B, o, none⟩) h _).setCell (p := ⟨B, o + 1, none⟩) h _).setCell (p := ⟨B, o + 2, none⟩) h _)
theorem put3_frozen (w : World) (B o : Nat) (x0 x1 x2 : Value) (j : Nat) : (put3 w B o x0 x1 x2).frozen? ⟨B, j, none⟩ = w.frozen? ⟨B, j, none⟩ := by
  unfold put3
  rw [World.frozen?_setCell, World.frozen?_setCell, World.frozen?_setCell]
theorem put3_other (w : World) (B o : Nat) (x0 x1 x2 : Value) (j : Nat) (h : j < o ∨ o + 3 ≤ j) : (put3 w B o x0 x1 x2).cell? ⟨B, j, none⟩ = w.cell? ⟨B, j, none⟩ := by
  unfold put3
  rw [cell_other _ _ _ _ _ (by omega), cell_other _ _ _ _ _ (by omega), cell_other _ _ _ _ _ (by omega)]
theorem put3_at (w : World) (B o : Nat) (x0 x1 x2 : Value) (h : ∀ j, o ≤ j → j < o + 3 → ∃ v, w.cell? ⟨B, j, none⟩ = some v) :
    (put3 w B o x0 x1 x2).cell? ⟨B, o, none⟩ = some x0 ∧ (put3 w B o x0 x1 x2).cell? ⟨B, o + 1, none⟩ = some x1 ∧ (put3 w B o x0 x1 x2).cell? ⟨B, o + 2, none⟩ = some x2 := by
  have hs : ∀ j, o ≤ j → j < o + 3 → (w.cell? ⟨B, j, none⟩).isSome = true := fun j h1 h2 => by obtain ⟨v, hv⟩ := h j h1 h2; rw [hv]; rfl
  unfold put3
  refine ⟨?_, ?_, ?_⟩
  · rw [cell_other _ _ _ _ _ (by omega), cell_other _ _ _ _ _ (by omega)]
    exact cell_same _ _ _ _ (hs _ (by omega) (by omega))
  · rw [cell_other _ _ _ _ _ (by omega)]
    exact cell_same _ _ _ _ (by rw [cell_other _ _ _ _ _ (by omega)]; exact hs _ (by omega) (by omega))
  · exact cell_same _ _ _ _ (by rw [cell_other _ _ _ _ _ (by omega), cell_other _ _ _ _ _ (by omega)]; exact hs _ (by omega) (by omega))
theorem infoPa : (Try.prog.info? 44).map (fun i => (i.zero, i.size, i.bytes)) = some (some (.agg #[.string ⟨#[]⟩, .slice none 0 0, .slice none 0 0]), 3, 64) := by kernel_rfl
theorem makePas (n : Nat) (hn : n ≤ 1048576) : ∃ M : Array Value, M.size = n * 3 ∧ ∀ W : World, (Instr.makeSlice 26 (.int .i64 (n : Int)) (.int .i64 (n : Int))).run Try.prog W = .ok (.slice (some ⟨W.heap.size, 0, none⟩) n n) (W.alloc (.cells M 44)) := by
  obtain ⟨i0, hi, hz0, hz1, hz2⟩ := info_parts infoPa
  refine ⟨madeCells (Value.cells (.agg #[.string ⟨#[]⟩, .slice none 0 0, .slice none 0 0])) (((n : Nat) : Int).toNat * i0.size), by rw [size_madeCells, hz1]; simp, fun W => ?_⟩
  have h := run_make (P := Try.prog) W 26 44 i0 _ Try.underlying26 hi hz0 .i64 .i64 (n : Int) (n : Int) (by omega) (by omega) (by rw [hz2]; omega) (by omega)
  simpa using h
/-- The contract of the element's copying. -/
def ToPa (lo : Nat)  : Prop := ∀ (v : Value) (e : TP) (w : World), (IsPa w lo w.heap.size) v e → e.wt ≤ 1048576 →
  Calls Try.prog 13 #[v] w fun r w' => ∃ c0 c1 c2 : Value, r = .returned (.agg #[c0, c1, c2]) ∧ (IsPa w' w.heap.size w'.heap.size) (.agg #[c0, c1, c2]) e ∧ Below w.heap.size w w'
/-- The first k elements lie copied in the block B. -/
def CopiedPa (w : World) (B : Nat)  (k : Nat) (kids : List TP) : Prop := ∀ j (hj : j < kids.length), j < k → ∃ c0 c1 c2 : Value,
  w.cell? ⟨B, j * 3, none⟩ = some c0 ∧ w.cell? ⟨B, j * 3 + 1, none⟩ = some c1 ∧ w.cell? ⟨B, j * 3 + 2, none⟩ = some c2 ∧ (IsPa w (B + 1) w.heap.size) (.agg #[c0, c1, c2]) kids[j]
theorem CopiedPa.next {w w2 : World} {B : Nat}  {k : Nat} {kids : List TP} {x0 x1 x2 : Value} (hp : k < kids.length) (hD : CopiedPa w B  k kids) (hz : B < w.heap.size) (hb2 : Below w.heap.size w w2)
    (hc : ∀ j, j < kids.length * 3 → ∃ v, w2.cell? ⟨B, j, none⟩ = some v) (hE : (IsPa w2 w.heap.size w2.heap.size) (.agg #[x0, x1, x2]) (kids[k]'hp)) : CopiedPa (put3 w2 B (k * 3) x0 x1 x2) B  (k + 1) kids := by
  intro j hj hjk
  have hs2 : Same (B + 1) w2.heap.size w2 (put3 w2 B (k * 3) x0 x1 x2) := fun b h1 h2 => put3_heap _ _ _ _ _ _ b (by omega)
  have hsz := put3_size w2 B (k * 3) x0 x1 x2
  by_cases e : j = k
  · subst e
    obtain ⟨a0, a1, a2⟩ := put3_at w2 B (j * 3) x0 x1 x2 (fun i h1 h2 => hc i (by omega))
    exact ⟨x0, x1, x2, a0, a1, a2, IsPa.same  (fun b h1 h2 => hs2 b (by omega) h2) (by omega) (by omega) _ _ hE⟩
  · obtain ⟨c0, c1, c2, d0, d1, d2, hr⟩ := hD j hj (by omega)
    have hcc : ∀ i, i < k * 3 → (put3 w2 B (k * 3) x0 x1 x2).cell? ⟨B, i, none⟩ = w.cell? ⟨B, i, none⟩ := fun i hi =>
      (put3_other w2 B (k * 3) x0 x1 x2 i (by omega)).trans (hb2.cell (p := ⟨B, i, none⟩) hz)
    refine ⟨c0, c1, c2, (hcc _ (by omega)).trans d0, (hcc _ (by omega)).trans d1, (hcc _ (by omega)).trans d2, IsPa.same  (fun b h1 h2 => ?_) (Nat.le_refl _) (by have := hb2.size; omega) _ _ hr⟩
    exact (hs2 b h1 (by have := hb2.size; omega)).trans (hb2.block b h2)

set_option maxHeartbeats 1000000 in
theorem toTreePaS_of (lo : Nat)  (H : ToPa lo ) (a : Option Addr) (cap : Nat) (kids : List TP) (w : World) (hk : IsPas (IsPa w lo w.heap.size) w lo w.heap.size a kids) (ht : kids.length + wtPas kids ≤ 1048576) :
    Calls Try.prog 6 #[.slice a kids.length cap] w fun r w' => ∃ (a' : Option Addr), r = .returned (.slice a' kids.length kids.length) ∧ IsPas (IsPa w' w.heap.size w'.heap.size) w' w.heap.size w'.heap.size a' kids ∧ Below w.heap.size w w' := by
  obtain ⟨M, hM, hmk⟩ := makePas kids.length (by omega)
  have HK := hide hk
  have HH := hide H
  have HT := hide ht
  have HM := hide hM
  have hl : kids.length ≤ 1048576 := by omega
  clear hk H ht hM
  go_enter Try.func6, Try.ntmps6
  go_wp2
  clear hmk
  go_loopw [4] (fun i wr => ∃ k : Nat, k ≤ kids.length ∧ i = .int .i64 k ∧ Hid (Below w.heap.size w wr) ∧ Hid (w.heap.size < wr.heap.size) ∧ Hid (CopiedPa wr w.heap.size  k kids) ∧ Hid (∀ j, j < kids.length * 3 → ∃ v, wr.cell? ⟨w.heap.size, j, none⟩ = some v) ∧ Hid (∀ j, wr.frozen? ⟨w.heap.size, j, none⟩ = false)) (fun i _ => kids.length - (intOf i).toNat)
  case atStart =>
    refine ⟨0, Nat.zero_le _, rfl, hide ((Below.refl _ w).alloc (Nat.le_refl _) _), hide (by simp), hide (fun j _ hj => absurd hj (Nat.not_lt_zero _)), hide (fun j hj => ?_), hide (fun j => by simp)⟩
    rw [World.cell?_alloc_new]
    have : j < M.size := by rw [unhide HM]; exact hj
    exact ⟨_, Array.getElem?_eq_getElem this⟩
  case round =>
    obtain ⟨k, hk, rfl, HB, HZ, HD, HC, HF⟩ := hrel
    by_cases hp : k < kids.length
    · rcases (unhide HK).kept (unhide HB) (unhide HB).size with hq | ⟨b, off, rfl, hbl, hbn, hcs⟩
      · rw [hq] at hp; simp at hp
      obtain ⟨c0, c1, c2, d0, d1, d2, hr⟩ := hcs k hp
      have hs1 := wtPa_step kids k hp
      have hs3 := wtPa_le kids (k + 1)
      obtain ⟨e, he⟩ : ∃ e, kids[k] = e := ⟨_, rfl⟩
      rw [he] at hr hs1
      have hew : e.wt ≤ 1048576 := by have := unhide HT; omega
      have HR := hide hr
      have HE := hide he
      clear hcs hr hs1 hs3 he
      go_wp2_with fail
      refine (unhide HH _ e wr (unhide HR) hew).mono ?_
      rintro r w2 ⟨x0, x1, x2, rfl, hE2, hb2⟩
      obtain ⟨xs, xa, xl, xc, ya, yl, yc, rfl, rfl, rfl⟩ := IsPa.form  hE2
      have hz := unhide HZ
      have hcc : ∀ j, j < kids.length * 3 → ∃ v, w2.cell? ⟨w.heap.size, j, none⟩ = some v := fun j hj => by
        obtain ⟨v, hv⟩ := unhide HC j hj
        exact ⟨v, (hb2.cell (p := ⟨w.heap.size, j, none⟩) hz).trans hv⟩
      have hff : ∀ j, w2.frozen? ⟨w.heap.size, j, none⟩ = false := fun j => (hb2.frozen (p := ⟨w.heap.size, j, none⟩) hz).trans (unhide HF j)
      obtain ⟨y0, q0⟩ := hcc (k * 3) (by omega)
      have f0 := hff (k * 3)
      obtain ⟨y1, q1⟩ := hcc (k * 3 + 1) (by omega)
      have f1 := hff (k * 3 + 1)
      obtain ⟨y2, q2⟩ := hcc (k * 3 + 2) (by omega)
      have f2 := hff (k * 3 + 2)
      have HC2 := hide hcc
      have HF2 := hide hff
      have HE2 := hide hE2
      have HB2 := hide hb2
      clear hcc hff hE2 hb2 hz d0 d1 d2
      have HN : Hid (CopiedPa (put3 w2 w.heap.size (k * 3) (.string xs) (.slice xa xl xc) (.slice ya yl yc)) w.heap.size  (k + 1) kids) := hide (CopiedPa.next  hp (unhide HD) (unhide HZ) (unhide HB2) (unhide HC2) (by rw [unhide HE]; exact unhide HE2))
      have HB3 := hide (((unhide HB).trans ((unhide HB2).mono (unhide HB).size)).trans (put3_below w2 w.heap.size (k * 3) (.string xs) (.slice xa xl xc) (.slice ya yl yc) (Nat.le_refl _)))
      have HZ3 : Hid (w.heap.size < (put3 w2 w.heap.size (k * 3) (.string xs) (.slice xa xl xc) (.slice ya yl yc)).heap.size) := hide (by rw [put3_size]; have := (unhide HB2).size; have := unhide HZ; omega)
      have HF3 : Hid (∀ j, (put3 w2 w.heap.size (k * 3) (.string xs) (.slice xa xl xc) (.slice ya yl yc)).frozen? ⟨w.heap.size, j, none⟩ = false) := hide (fun j => by rw [put3_frozen]; exact unhide HF2 j)
      have HC3 : Hid (∀ j, j < kids.length * 3 → ∃ v, (put3 w2 w.heap.size (k * 3) (.string xs) (.slice xa xl xc) (.slice ya yl yc)).cell? ⟨w.heap.size, j, none⟩ = some v) := hide (fun j hj => by
        by_cases ho : j < k * 3 ∨ k * 3 + 3 ≤ j
        · rw [put3_other _ _ _ _ _ _ _ ho]; exact unhide HC2 j hj
        · obtain ⟨a0, a1, a2⟩ := put3_at w2 w.heap.size (k * 3) (.string xs) (.slice xa xl xc) (.slice ya yl yc) (fun i h1 h2 => unhide HC2 i (by omega))
          have hj5 : j = k * 3 ∨ j = k * 3 + 1 ∨ j = k * 3 + 2 := by omega
          rcases hj5 with rfl | rfl | rfl
          · exact ⟨_, a0⟩
          · exact ⟨_, a1⟩
          · exact ⟨_, a2⟩)
      clear HD HC HF HB HZ HE2 HR
      go_wp2
      go_roundw
      case rel => exact ⟨k + 1, by omega, by go_num, HB3, HZ3, HN, HC3, HF3⟩
      case measure => simp [intOf] <;> omega
    · go_wp2
      go_ret
      refine ⟨_, rfl, .inr ⟨w.heap.size, 0, rfl, Nat.le_refl _, unhide HZ, fun j hj => ?_⟩, unhide HB⟩
      obtain ⟨c0, c1, c2, d0, d1, d2, hr⟩ := unhide HD j hj (by omega)
      refine ⟨c0, c1, c2, ?_, ?_, ?_, IsPa.same  (fun b h1 h2 => rfl) (by omega) (Nat.le_refl _) _ _ hr⟩
      · rw [Nat.zero_add]; exact d0
      · rw [Nat.zero_add]; exact d1
      · rw [Nat.zero_add]; exact d2
end Go.Proofs.Ytakcpfmpaopfdaa
