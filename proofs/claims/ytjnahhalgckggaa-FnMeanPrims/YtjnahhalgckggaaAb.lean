/- Rows of values: the walks of szMeanValS, eqMeanValS. Conditions: the rows can be read. -/
import Derived.Test.YtjnahhalgckggaaAa
namespace Go.Proofs.Ytjnahhalgckggaa
open Go.RowKit Go.PlainAid

/-- A row that can be read, all of it in the blocks from lo on and below n, each element as R says. -/
def IsMvs (R : Value → MV → Prop) (w : World) (lo n : Nat) (a : Option Addr) (xs : List MV) : Prop :=
  xs = [] ∨ ∃ b off : Nat, a = some ⟨b, off, none⟩ ∧ lo ≤ b ∧ b < n ∧ ∀ j (hj : j < xs.length), ∃ c0 c1 c2 : Value,
    w.cell? ⟨b, off + j * 3, none⟩ = some c0 ∧ w.cell? ⟨b, off + j * 3 + 1, none⟩ = some c1 ∧ w.cell? ⟨b, off + j * 3 + 2, none⟩ = some c2 ∧ R (.agg #[c0, c1, c2]) xs[j]
theorem IsMvs.mono {R R' : Value → MV → Prop} {w w' : World} {lo n lo' n' : Nat} {a : Option Addr} {xs : List MV} (h : IsMvs R w lo n a xs) (hR : ∀ v e, R v e → R' v e) (hs : Same lo n w w') (hl : lo' ≤ lo) (hn : n ≤ n') : IsMvs R' w' lo' n' a xs := by
  rcases h with h | ⟨b, off, h1, h0, h2, h3⟩
  · exact .inl h
  · refine .inr ⟨b, off, h1, by omega, by omega, fun j hj => ?_⟩
    obtain ⟨c0, c1, c2, d0, d1, d2, hr⟩ := h3 j hj
    have hc : ∀ o, w'.cell? ⟨b, o, none⟩ = w.cell? ⟨b, o, none⟩ := fun o => World.cell?_of_block (w := w) (hs b h0 h2)
    exact ⟨c0, c1, c2, (hc _).trans d0, (hc _).trans d1, (hc _).trans d2, hR _ _ hr⟩
theorem IsMvs.kept  {w w' : World} {lo n m : Nat} {a : Option Addr} {xs : List MV} (hk : IsMvs (IsMv w lo n) w lo n a xs) (hb : Below n w w') (hnm : n ≤ m) : IsMvs (IsMv w' lo m) w' lo m a xs :=
  hk.mono (fun v e he => IsMv.same  (Below.same hb) (Nat.le_refl _) hnm v e he) (Below.same hb) (Nat.le_refl _) hnm
def wtMvs (l : List MV) : Nat := (l.map MV.wt).sum
theorem wtMv_step (xs : List MV) (k : Nat) (h : k < xs.length) : wtMvs (xs.take (k + 1)) = wtMvs (xs.take k) + xs[k].wt := by
  unfold wtMvs; rw [List.take_succ_eq_append_getElem h, List.map_append, List.sum_append]; simp
theorem wtMv_le (xs : List MV) (k : Nat) : wtMvs (xs.take k) ≤ wtMvs xs := by
  have : wtMvs xs = wtMvs (xs.take k) + wtMvs (xs.drop k) := by
    unfold wtMvs
    conv => lhs; rw [← List.take_append_drop k xs]
    rw [List.map_append, List.sum_append]
  omega

/-- The contract of the element's weighing. -/
def SzMv (lo : Nat)  : Prop := ∀ (v : Value) (e : MV) (w : World) (left : Int), (IsMv w lo w.heap.size) v e → 0 ≤ left → left ≤ 1048576 →
  Calls Try.prog 22 #[v, .int .i64 left] w fun r w' => r = .returned (.int .i64 (leftI left e.wt)) ∧ Below w.heap.size w w'

set_option maxHeartbeats 1000000 in
theorem szMeanValS_of (lo : Nat)  (H : SzMv lo ) (a : Option Addr) (cap : Nat) (kids : List MV) (w : World) (left : Int) (hk : IsMvs (IsMv w lo w.heap.size) w lo w.heap.size a kids) (hl : kids.length ≤ maxLen) (h0 : 0 ≤ left) (h1 : left ≤ 1048576) :
    Calls Try.prog 7 #[.slice a kids.length cap, .int .i64 left] w fun r w' => r = .returned (.int .i64 (leftI left (kids.length + wtMvs kids))) ∧ Below w.heap.size w w' := by
  unfold maxLen at hl
  have HK := hide hk
  have HH := hide H
  clear hk H
  by_cases hb : left < (kids.length : Int)
  · have HF := hide (left_no (left := left) (n := kids.length + wtMvs kids) (by omega))
    go_enter Try.func7, Try.ntmps7
    go_wp2
    go_ret
    exact ⟨ret_int (unhide HF).symm, Below.refl _ _⟩
  obtain ⟨L, hL⟩ := Int.eq_ofNat_of_zero_le (show 0 ≤ left - kids.length by omega)
  have HL := hide hL
  have hL2 : L ≤ 1048576 := by omega
  go_enter Try.func7, Try.ntmps7
  go_wp2
  go_loopw [1, 5] (fun l i wr => ∃ k M : Nat, k ≤ kids.length ∧ i = .int .i64 k ∧ l = .int .i64 M ∧ M ≤ 1048576 ∧ Hid (wtMvs (kids.take k) + M = L) ∧ Hid (Below w.heap.size w wr)) (fun _ i _ => kids.length - (intOf i).toNat)
  case atStart => exact ⟨0, L, Nat.zero_le _, rfl, by rw [← unhide HL], hL2, hide (by simp [wtMvs]), hide (Below.refl _ _)⟩
  case round =>
    obtain ⟨k, M, hk, rfl, rfl, hM, HS, HB⟩ := hrel
    by_cases hp : k < kids.length
    · rcases (unhide HK).kept (unhide HB) (unhide HB).size with hq | ⟨b, off, rfl, hbl, hbn, hcs⟩
      · rw [hq] at hp; simp at hp
      obtain ⟨c0, c1, c2, d0, d1, d2, hr⟩ := hcs k hp
      have hs1 := wtMv_step kids k hp
      have hs3 := wtMv_le kids (k + 1)
      generalize kids[k] = e at hr hs1
      have HR := hide hr
      have HX1 := hide hs1
      have HX3 := hide hs3
      clear hcs hr hs1 hs3
      go_wp2_with fail
      refine (unhide HH _ e wr M (unhide HR) (by omega) (by omega)).mono ?_
      rintro r w2 ⟨rfl, hb2⟩
      have HB2 := hide ((unhide HB).trans (hb2.mono (unhide HB).size))
      clear hb2 HB d0 d1 d2 HR
      by_cases hw : e.wt ≤ M
      · have el : leftI (M : Int) e.wt = ((M - e.wt : Nat) : Int) := by rw [left_yes (by omega)]; omega
        rw [el]
        obtain ⟨M', hM'⟩ : ∃ M', M - e.wt = M' := ⟨_, rfl⟩
        rw [hM']
        have HM := hide hM'
        have hM2 : M' ≤ 1048576 := by omega
        have HWT := hide hw
        clear el hM' hw
        go_wp2
        go_roundw
        case rel => exact ⟨k + 1, M', by omega, by go_num, rfl, hM2, hide (by rw [unhide HX1]; have := unhide HM; have := unhide HS; have := unhide HWT; omega), HB2⟩
        case measure => simp [intOf] <;> omega
      · have el : leftI (M : Int) e.wt = -1 := left_no (by omega)
        rw [el]
        have HF : Hid (leftI left (kids.length + wtMvs kids) = -1) := hide (left_no (by have := unhide HX1; have := unhide HX3; have := unhide HS; have := unhide HL; omega))
        clear el hw
        go_wp2
        go_ret
        exact ⟨ret_int (unhide HF).symm, unhide HB2⟩
    · have HF : Hid (leftI left (kids.length + wtMvs kids) = (M : Int)) := hide (by
        have e : kids.take k = kids := List.take_of_length_le (by omega)
        have h1 := unhide HS
        rw [e] at h1
        have h2 := unhide HL
        rw [left_yes (by omega)]; omega)
      go_wp2
      go_ret
      exact ⟨ret_int (unhide HF).symm, unhide HB⟩

/-- The contract of the element's comparing, at elements that are the same. -/
def EqMv (lo lo' : Nat)   : Prop := ∀ (v v' : Value) (e : MV) (w : World), (IsMv w lo w.heap.size) v e → (IsMv w lo' w.heap.size) v' e →
  Calls Try.prog 11 #[v, v'] w fun r w' => r = .returned (.bool true) ∧ Below w.heap.size w w'
set_option maxHeartbeats 1000000 in
theorem eqMeanValS_of (lo lo' : Nat)   (H : EqMv lo lo'  ) (a a' : Option Addr) (cap cap' : Nat) (kids : List MV) (w : World) (hl : kids.length ≤ maxLen) (hk : IsMvs (IsMv w lo w.heap.size) w lo w.heap.size a kids) (hk' : IsMvs (IsMv w lo' w.heap.size) w lo' w.heap.size a' kids) :
    Calls Try.prog 12 #[.slice a kids.length cap, .slice a' kids.length cap'] w fun r w' => r = .returned (.bool true) ∧ Below w.heap.size w w' := by
  unfold maxLen at hl
  have HK := hide hk
  have HK' := hide hk'
  have HH := hide H
  have hq : ((kids.length : Int) != (kids.length : Int)) = false := by simp
  clear hk hk' H
  go_enter Try.func12, Try.ntmps12
  go_wp2
  go_loopw [5] (fun i wr => ∃ k : Nat, k ≤ kids.length ∧ i = .int .i64 k ∧ Hid (Below w.heap.size w wr)) (fun i _ => kids.length - (intOf i).toNat)
  case atStart => exact ⟨0, Nat.zero_le _, rfl, hide (Below.refl _ _)⟩
  case round =>
    obtain ⟨k, hk, rfl, HB⟩ := hrel
    by_cases hp : k < kids.length
    · rcases (unhide HK).kept (unhide HB) (unhide HB).size with hq | ⟨b, off, rfl, hbl, hbn, hcs⟩
      · rw [hq] at hp; simp at hp
      rcases (unhide HK').kept (unhide HB) (unhide HB).size with hq | ⟨b', off', rfl, hbl', hbn', hcs'⟩
      · rw [hq] at hp; simp at hp
      obtain ⟨c0, c1, c2, d0, d1, d2, hr⟩ := hcs k hp
      obtain ⟨c0', c1', c2', d0', d1', d2', hr'⟩ := hcs' k hp
      generalize kids[k] = e at hr hr'
      have HR := hide hr
      have HR' := hide hr'
      clear hcs hcs' hr hr'
      have HQ := hide (fun (W : World) (hb : Below wr.heap.size wr W) => unhide HH _ _ e W (IsMv.same  (Below.same hb) (Nat.le_refl _) hb.size _ _ (unhide HR)) (IsMv.same  (Below.same hb) (Nat.le_refl _) hb.size _ _ (unhide HR')))
      clear HR HR'
      go_wp2
      go_region_with (go_at_call 11; refine (unhide HQ _ (Below.refl _ _).drew).mono ?_; rintro r w2 ⟨rfl, hb2⟩)
      all_goals
        go_wp2
        go_roundw
        case rel => exact ⟨k + 1, by omega, by go_num, hide ((unhide HB).drew.trans (hb2.mono (unhide HB).drew.size))⟩
        case measure => simp [intOf] <;> omega
    · go_wp2
      go_ret
      exact ⟨rfl, unhide HB⟩

/-- 3 cells are written one behind the other. -/
abbrev put3 (w : World) (B o : Nat) (x0 x1 x2 : Value) : World := ((w.setCell ⟨B, o, none⟩ x0).setCell ⟨B, o + 1, none⟩ x1).setCell ⟨B, o + 2, none⟩ x2
theorem put3_size (w : World) (B o : Nat) (x0 x1 x2 : Value) : (put3 w B o x0 x1 x2).heap.size = w.heap.size := by simp [put3, World.setCell]
theorem put3_heap (w : World) (B o : Nat) (x0 x1 x2 : Value) (b : Nat) (h : b ≠ B) : (put3 w B o x0 x1 x2).heap[b]? = w.heap[b]? := by
  unfold put3
  rw [Below.heap_setCell _ _ _ _ (by simpa using h), Below.heap_setCell _ _ _ _ (by simpa using h), Below.heap_setCell _ _ _ _ (by simpa using h)]
theorem put3_frozen (w : World) (B o : Nat) (x0 x1 x2 : Value) (j : Nat) : (put3 w B o x0 x1 x2).frozen? ⟨B, j, none⟩ = w.frozen? ⟨B, j, none⟩ := by
  unfold put3
  rw [World.frozen?_setCell, World.frozen?_setCell, World.frozen?_setCell]
theorem put3_other (w : World) (B o : Nat) (x0 x1 x2 : Value) (j : Nat) (h : j < o ∨ o + 3 ≤ j) : (put3 w B o x0 x1 x2).cell? ⟨B, j, none⟩ = w.cell? ⟨B, j, none⟩ := by
  unfold put3
  rw [cell_other _ _ _ _ _ (by omega), cell_other _ _ _ _ _ (by omega), cell_other _ _ _ _ _ (by omega)]
theorem put3_at (w : World) (B o : Nat) (x0 x1 x2 : Value) (h : ∀ j, o ≤ j → j < o + 3 → ∃ v, w.cell? ⟨B, j, none⟩ = some v) :
    (put3 w B o x0 x1 x2).cell? ⟨B, o, none⟩ = some x0 ∧ (put3 w B o x0 x1 x2).cell? ⟨B, o + 1, none⟩ = some x1 ∧ (put3 w B o x0 x1 x2).cell? ⟨B, o + 2, none⟩ = some x2 := by
  have hs : ∀ j, o ≤ j → j < o + 3 → (w.cell? ⟨B, j, none⟩).isSome = true := fun j h1 h2 => by obtain ⟨v, hv⟩ := h j h1 h2; rw [hv]; rfl
  unfold put3
  refine ⟨?_, ?_, ?_⟩
  · rw [cell_other _ _ _ _ _ (by omega), cell_other _ _ _ _ _ (by omega)]
    exact cell_same _ _ _ _ (hs _ (by omega) (by omega))
  · rw [cell_other _ _ _ _ _ (by omega)]
    exact cell_same _ _ _ _ (by rw [cell_other _ _ _ _ _ (by omega)]; exact hs _ (by omega) (by omega))
  · exact cell_same _ _ _ _ (by rw [cell_other _ _ _ _ _ (by omega), cell_other _ _ _ _ _ (by omega)]; exact hs _ (by omega) (by omega))
theorem infoMv : (Try.prog.info? 28).map (fun i => (i.zero, i.size, i.bytes)) = some (some (.agg #[.int .i64 0, .int .i64 0, .slice none 0 0]), 3, 40) := by kernel_rfl
theorem makeMvs (n : Nat) (hn : n ≤ 1048576) : ∃ M : Array Value, M.size = n * 3 ∧ ∀ W : World, (Instr.makeSlice 23 (.int .i64 (n : Int)) (.int .i64 (n : Int))).run Try.prog W = .ok (.slice (some ⟨W.heap.size, 0, none⟩) n n) (W.alloc (.cells M 28)) := by
  obtain ⟨i0, hi, hz0, hz1, hz2⟩ := info_parts infoMv
  refine ⟨madeCells (Value.cells (.agg #[.int .i64 0, .int .i64 0, .slice none 0 0])) (((n : Nat) : Int).toNat * i0.size), by rw [size_madeCells, hz1]; simp, fun W => ?_⟩
  have h := run_make (P := Try.prog) W 23 28 i0 _ Try.underlying23 hi hz0 .i64 .i64 (n : Int) (n : Int) (by omega) (by omega) (by rw [hz2]; omega) (by omega)
  simpa using h
/-- The first k elements lie copied in the block B. -/
def CopiedMv (w : World) (B : Nat)  (k : Nat) (kids : List MV) : Prop := ∀ j (hj : j < kids.length), j < k → ∃ c0 c1 c2 : Value,
  w.cell? ⟨B, j * 3, none⟩ = some c0 ∧ w.cell? ⟨B, j * 3 + 1, none⟩ = some c1 ∧ w.cell? ⟨B, j * 3 + 2, none⟩ = some c2 ∧ (IsMv w (B + 1) w.heap.size) (.agg #[c0, c1, c2]) kids[j]

set_option maxHeartbeats 1000000 in
theorem szMeanVal_any (lo : Nat) : SzMv lo := by
  intro v f w left hF h0 h1
  obtain ⟨kd, nu, args⟩ := f
  obtain ⟨aa, ca, rfl, hs2, ha⟩ := hF
  dsimp only at hs2 ha ⊢
  have HA := hide (fun (w' : World) => szIntS_any aa ca args w' left hs2 h0 h1)
  unfold maxLen at hs2
  show Calls Try.prog 22 #[.agg #[.int .i64 kd, .int .i64 nu, .slice aa args.length ca], .int .i64 left] w fun r w' => r = .returned (.int .i64 (leftI left args.length)) ∧ Below w.heap.size w w'
  obtain ⟨A, hA⟩ : ∃ A, args.length = A := ⟨_, rfl⟩
  rw [hA] at HA hs2 ⊢
  clear ha hA
  go_enter Try.func22, Try.ntmps22
  go_wp2_with fail
  refine (unhide HA _).mono ?_
  rintro r w2 ⟨rfl, hb2⟩
  have HB2 := hide (((Below.refl w.heap.size w).alloc (Nat.le_refl _) _).trans (hb2.mono (by simp)))
  clear hb2
  by_cases hw : (A : Int) ≤ left
  · obtain ⟨K, hK⟩ := Int.eq_ofNat_of_zero_le (show 0 ≤ left - A by omega)
    have el : leftI left A = (K : Int) := by rw [left_yes (by omega)]; omega
    have hK2 : K ≤ 1048576 := by omega
    have HF := hide el
    rw [el]
    clear el hw hK
    go_wp2
    go_ret
    exact ⟨ret_int (unhide HF).symm, unhide HB2⟩
  · have el : leftI left A = -1 := left_no (by omega)
    have HF := hide el
    rw [el]
    clear el hw
    go_wp2
    go_ret
    exact ⟨ret_int (unhide HF).symm, unhide HB2⟩

set_option maxHeartbeats 1000000 in
theorem eqMeanVal_any (lo lo' : Nat) : EqMv lo lo' := by
  intro v v' f w hF hF'
  obtain ⟨kd, nu, args⟩ := f
  obtain ⟨aa, ca, rfl, hs2, ha⟩ := hF
  obtain ⟨aa', ca', rfl, _, ha'⟩ := hF'
  dsimp only at hs2 ha ha' ⊢
  have HA := hide (fun (w' : World) (hb : Below w.heap.size w w') => eqIntS_any lo lo' aa aa' ca ca' args w' hs2 (ha.kept hb hb.size) (ha'.kept hb hb.size))
  clear ha ha' hs2
  have q1 : (kd != kd) = false := by simp
  have q3 : (nu != nu) = false := by simp
  show Calls Try.prog 11 #[.agg #[.int .i64 kd, .int .i64 nu, .slice aa args.length ca], .agg #[.int .i64 kd, .int .i64 nu, .slice aa' args.length ca']] w fun r w' => r = .returned (.bool true) ∧ Below w.heap.size w w'
  go_enter Try.func11, Try.ntmps11
  go_wp2_with fail
  refine (unhide HA _ (((Below.refl _ w).alloc (Nat.le_refl _) _).alloc (by simp) _)).mono ?_
  rintro r w2 ⟨rfl, hb2⟩
  have HB2 := hide ((((Below.refl w.heap.size w).alloc (Nat.le_refl _) _).alloc (by simp) _).trans (hb2.mono (by simp; omega)))
  clear hb2
  go_wp2
  go_ret
  exact ⟨rfl, unhide HB2⟩
end Go.Proofs.Ytjnahhalgckggaa
