/- Rows of instructions: the walks of szCodeInsS, eqCodeInsS, toCodeInsS. Conditions: the rows can be read. -/
import Derived.Test.YtakcpfmpaopfdaaCa
namespace Go.Proofs.Ytakcpfmpaopfdaa
open Go.RowKit Go.PlainAid

/-- A row that can be read, all of it in the blocks from lo on and below n, each element as R says. -/
def IsCis (R : Value → TI → Prop) (w : World) (lo n : Nat) (a : Option Addr) (xs : List TI) : Prop :=
  xs = [] ∨ ∃ b off : Nat, a = some ⟨b, off, none⟩ ∧ lo ≤ b ∧ b < n ∧ ∀ j (hj : j < xs.length), ∃ c0 c1 : Value,
    w.cell? ⟨b, off + j * 2, none⟩ = some c0 ∧ w.cell? ⟨b, off + j * 2 + 1, none⟩ = some c1 ∧ R (.agg #[c0, c1]) xs[j]
theorem IsCis.mono {R R' : Value → TI → Prop} {w w' : World} {lo n lo' n' : Nat} {a : Option Addr} {xs : List TI} (h : IsCis R w lo n a xs) (hR : ∀ v e, R v e → R' v e) (hs : Same lo n w w') (hl : lo' ≤ lo) (hn : n ≤ n') : IsCis R' w' lo' n' a xs := by
  rcases h with h | ⟨b, off, h1, h0, h2, h3⟩
  · exact .inl h
  · refine .inr ⟨b, off, h1, by omega, by omega, fun j hj => ?_⟩
    obtain ⟨c0, c1, d0, d1, hr⟩ := h3 j hj
    have hc : ∀ o, w'.cell? ⟨b, o, none⟩ = w.cell? ⟨b, o, none⟩ := fun o => World.cell?_of_block (w := w) (hs b h0 h2)
    exact ⟨c0, c1, (hc _).trans d0, (hc _).trans d1, hR _ _ hr⟩
theorem IsCis.kept  {w w' : World} {lo n m : Nat} {a : Option Addr} {xs : List TI} (hk : IsCis (IsCi w lo n) w lo n a xs) (hb : Below n w w') (hnm : n ≤ m) : IsCis (IsCi w' lo m) w' lo m a xs :=
  hk.mono (fun v e he => IsCi.same  (Below.same hb) (Nat.le_refl _) hnm v e he) (Below.same hb) (Nat.le_refl _) hnm
def wtCis (l : List TI) : Nat := (l.map TI.wt).sum
theorem wtCi_step (xs : List TI) (k : Nat) (h : k < xs.length) : wtCis (xs.take (k + 1)) = wtCis (xs.take k) + xs[k].wt := by
  unfold wtCis; rw [List.take_succ_eq_append_getElem h, List.map_append, List.sum_append]; simp
theorem wtCi_le (xs : List TI) (k : Nat) : wtCis (xs.take k) ≤ wtCis xs := by
  have : wtCis xs = wtCis (xs.take k) + wtCis (xs.drop k) := by
    unfold wtCis
    conv => lhs; rw [← List.take_append_drop k xs]
    rw [List.map_append, List.sum_append]
  omega

set_option maxHeartbeats 400000 in
theorem szCodeInsS_any (a : Option Addr) (cap : Nat) (zs : List TI) (w : World) (left : Int) (hl : zs.length ≤ maxLen) (h0 : 0 ≤ left) (h1 : left ≤ 1048576) :
    Calls Try.prog 36 #[.slice a zs.length cap, .int .i64 left] w fun r w' => r = .returned (.int .i64 (leftI left zs.length)) ∧ Below w.heap.size w w' := by
  unfold maxLen at hl
  by_cases hb : left < (zs.length : Int)
  · have HF := hide (left_no (left := left) (n := zs.length) (by omega))
    go_enter Try.func36, Try.ntmps36
    go_wp2
    go_ret
    exact ⟨ret_int (unhide HF).symm, Below.refl _ _⟩
  · have HF := hide (left_yes (left := left) (n := zs.length) (by omega))
    go_enter Try.func36, Try.ntmps36
    go_wp2
    go_ret
    exact ⟨ret_int (unhide HF).symm, Below.refl _ _⟩

theorem wtCis_zero : ∀ l : List TI, wtCis l = 0
  | [] => rfl
  | x :: t => by have := wtCis_zero t; unfold wtCis at this ⊢; rw [List.map_cons, List.sum_cons, this]; rfl
/-- The contract of the element's comparing, at elements that are the same. -/
def EqCi (lo lo' : Nat)   : Prop := ∀ (v v' : Value) (e : TI) (w : World), (IsCi w lo w.heap.size) v e → (IsCi w lo' w.heap.size) v' e →
  Calls Try.prog 42 #[v, v'] w fun r w' => r = .returned (.bool true) ∧ Below w.heap.size w w'
set_option maxHeartbeats 1000000 in
theorem eqTreeCiS_of (lo lo' : Nat)   (H : EqCi lo lo'  ) (a a' : Option Addr) (cap cap' : Nat) (kids : List TI) (w : World) (hl : kids.length ≤ maxLen) (hk : IsCis (IsCi w lo w.heap.size) w lo w.heap.size a kids) (hk' : IsCis (IsCi w lo' w.heap.size) w lo' w.heap.size a' kids) :
    Calls Try.prog 40 #[.slice a kids.length cap, .slice a' kids.length cap'] w fun r w' => r = .returned (.bool true) ∧ Below w.heap.size w w' := by
  unfold maxLen at hl
  have HK := hide hk
  have HK' := hide hk'
  have HH := hide H
  have hq : ((kids.length : Int) != (kids.length : Int)) = false := by simp
  clear hk hk' H
  go_enter Try.func40, Try.ntmps40
  go_wp2
  go_loopw [5] (fun i wr => ∃ k : Nat, k ≤ kids.length ∧ i = .int .i64 k ∧ Hid (Below w.heap.size w wr)) (fun i _ => kids.length - (intOf i).toNat)
  case atStart => exact ⟨0, Nat.zero_le _, rfl, hide (Below.refl _ _)⟩
  case round =>
    obtain ⟨k, hk, rfl, HB⟩ := hrel
    by_cases hp : k < kids.length
    · rcases (unhide HK).kept (unhide HB) (unhide HB).size with hq | ⟨b, off, rfl, hbl, hbn, hcs⟩
      · rw [hq] at hp; simp at hp
      rcases (unhide HK').kept (unhide HB) (unhide HB).size with hq | ⟨b', off', rfl, hbl', hbn', hcs'⟩
      · rw [hq] at hp; simp at hp
      obtain ⟨c0, c1, d0, d1, hr⟩ := hcs k hp
      obtain ⟨c0', c1', d0', d1', hr'⟩ := hcs' k hp
      generalize kids[k] = e at hr hr'
      have HR := hide hr
      have HR' := hide hr'
      clear hcs hcs' hr hr'
      have HQ := hide (fun (W : World) (hb : Below wr.heap.size wr W) => unhide HH _ _ e W (IsCi.same  (Below.same hb) (Nat.le_refl _) hb.size _ _ (unhide HR)) (IsCi.same  (Below.same hb) (Nat.le_refl _) hb.size _ _ (unhide HR')))
      clear HR HR'
      go_wp2
      go_region_with (go_at_call 42; refine (unhide HQ _ (Below.refl _ _).drew).mono ?_; rintro r w2 ⟨rfl, hb2⟩)
      all_goals
        go_wp2
        go_roundw
        case rel => exact ⟨k + 1, by omega, by go_num, hide ((unhide HB).drew.trans (hb2.mono (unhide HB).drew.size))⟩
        case measure => simp [intOf] <;> omega
    · go_wp2
      go_ret
      exact ⟨rfl, unhide HB⟩

/-- 2 cells are written one behind the other. -/
abbrev put2 (w : World) (B o : Nat) (x0 x1 : Value) : World := (w.setCell ⟨B, o, none⟩ x0).setCell ⟨B, o + 1, none⟩ x1
theorem put2_size (w : World) (B o : Nat) (x0 x1 : Value) : (put2 w B o x0 x1).heap.size = w.heap.size := by simp [put2, World.setCell]
theorem put2_heap (w : World) (B o : Nat) (x0 x1 : Value) (b : Nat) (h : b ≠ B) : (put2 w B o x0 x1).heap[b]? = w.heap[b]? := by
  unfold put2
  rw [Below.heap_setCell _ _ _ _ (by simpa using h), Below.heap_setCell _ _ _ _ (by simpa using h)]
theorem put2_below (w : World) (B o : Nat) (x0 x1 : Value) {n : Nat} (h : n ≤ B) : Below n w (put2 w B o x0 x1) :=
  (((Below.refl n w).setCell (p := ⟨B, o, none⟩) h _).setCell (p := ⟨B, o + 1, none⟩) h _)
theorem put2_frozen (w : World) (B o : Nat) (x0 x1 : Value) (j : Nat) : (put2 w B o x0 x1).frozen? ⟨B, j, none⟩ = w.frozen? ⟨B, j, none⟩ := by
  unfold put2
  rw [World.frozen?_setCell, World.frozen?_setCell]
theorem put2_other (w : World) (B o : Nat) (x0 x1 : Value) (j : Nat) (h : j < o ∨ o + 2 ≤ j) : (put2 w B o x0 x1).cell? ⟨B, j, none⟩ = w.cell? ⟨B, j, none⟩ := by
  unfold put2
  rw [cell_other _ _ _ _ _ (by omega), cell_other _ _ _ _ _ (by omega)]
theorem put2_at (w : World) (B o : Nat) (x0 x1 : Value) (h : ∀ j, o ≤ j → j < o + 2 → ∃ v, w.cell? ⟨B, j, none⟩ = some v) :
    (put2 w B o x0 x1).cell? ⟨B, o, none⟩ = some x0 ∧ (put2 w B o x0 x1).cell? ⟨B, o + 1, none⟩ = some x1 := by
  have hs : ∀ j, o ≤ j → j < o + 2 → (w.cell? ⟨B, j, none⟩).isSome = true := fun j h1 h2 => by obtain ⟨v, hv⟩ := h j h1 h2; rw [hv]; rfl
  unfold put2
  refine ⟨?_, ?_⟩
  · rw [cell_other _ _ _ _ _ (by omega)]
    exact cell_same _ _ _ _ (hs _ (by omega) (by omega))
  · exact cell_same _ _ _ _ (by rw [cell_other _ _ _ _ _ (by omega)]; exact hs _ (by omega) (by omega))
theorem infoCi : (Try.prog.info? 90).map (fun i => (i.zero, i.size, i.bytes)) = some (some (.agg #[.int .i64 0, .int .i64 0]), 2, 16) := by kernel_rfl
theorem makeCis (n : Nat) (hn : n ≤ 1048576) : ∃ M : Array Value, M.size = n * 2 ∧ ∀ W : World, (Instr.makeSlice 58 (.int .i64 (n : Int)) (.int .i64 (n : Int))).run Try.prog W = .ok (.slice (some ⟨W.heap.size, 0, none⟩) n n) (W.alloc (.cells M 90)) := by
  obtain ⟨i0, hi, hz0, hz1, hz2⟩ := info_parts infoCi
  refine ⟨madeCells (Value.cells (.agg #[.int .i64 0, .int .i64 0])) (((n : Nat) : Int).toNat * i0.size), by rw [size_madeCells, hz1]; simp, fun W => ?_⟩
  have h := run_make (P := Try.prog) W 58 90 i0 _ Try.underlying58 hi hz0 .i64 .i64 (n : Int) (n : Int) (by omega) (by omega) (by rw [hz2]; omega) (by omega)
  simpa using h
/-- The contract of the element's copying. -/
def ToCi (lo : Nat)  : Prop := ∀ (v : Value) (e : TI) (w : World), (IsCi w lo w.heap.size) v e → e.wt ≤ 1048576 →
  Calls Try.prog 41 #[v] w fun r w' => ∃ c0 c1 : Value, r = .returned (.agg #[c0, c1]) ∧ (IsCi w' w.heap.size w'.heap.size) (.agg #[c0, c1]) e ∧ Below w.heap.size w w'
/-- The first k elements lie copied in the block B. -/
def CopiedCi (w : World) (B : Nat)  (k : Nat) (kids : List TI) : Prop := ∀ j (hj : j < kids.length), j < k → ∃ c0 c1 : Value,
  w.cell? ⟨B, j * 2, none⟩ = some c0 ∧ w.cell? ⟨B, j * 2 + 1, none⟩ = some c1 ∧ (IsCi w (B + 1) w.heap.size) (.agg #[c0, c1]) kids[j]
theorem CopiedCi.next {w w2 : World} {B : Nat}  {k : Nat} {kids : List TI} {x0 x1 : Value} (hp : k < kids.length) (hD : CopiedCi w B  k kids) (hz : B < w.heap.size) (hb2 : Below w.heap.size w w2)
    (hc : ∀ j, j < kids.length * 2 → ∃ v, w2.cell? ⟨B, j, none⟩ = some v) (hE : (IsCi w2 w.heap.size w2.heap.size) (.agg #[x0, x1]) (kids[k]'hp)) : CopiedCi (put2 w2 B (k * 2) x0 x1) B  (k + 1) kids := by
  intro j hj hjk
  have hs2 : Same (B + 1) w2.heap.size w2 (put2 w2 B (k * 2) x0 x1) := fun b h1 h2 => put2_heap _ _ _ _ _ b (by omega)
  have hsz := put2_size w2 B (k * 2) x0 x1
  by_cases e : j = k
  · subst e
    obtain ⟨a0, a1⟩ := put2_at w2 B (j * 2) x0 x1 (fun i h1 h2 => hc i (by omega))
    exact ⟨x0, x1, a0, a1, IsCi.same  (fun b h1 h2 => hs2 b (by omega) h2) (by omega) (by omega) _ _ hE⟩
  · obtain ⟨c0, c1, d0, d1, hr⟩ := hD j hj (by omega)
    have hcc : ∀ i, i < k * 2 → (put2 w2 B (k * 2) x0 x1).cell? ⟨B, i, none⟩ = w.cell? ⟨B, i, none⟩ := fun i hi =>
      (put2_other w2 B (k * 2) x0 x1 i (by omega)).trans (hb2.cell (p := ⟨B, i, none⟩) hz)
    refine ⟨c0, c1, (hcc _ (by omega)).trans d0, (hcc _ (by omega)).trans d1, IsCi.same  (fun b h1 h2 => ?_) (Nat.le_refl _) (by have := hb2.size; omega) _ _ hr⟩
    exact (hs2 b h1 (by have := hb2.size; omega)).trans (hb2.block b h2)

set_option maxHeartbeats 1000000 in
theorem toTreeCiS_of (lo : Nat)  (H : ToCi lo ) (a : Option Addr) (cap : Nat) (kids : List TI) (w : World) (hk : IsCis (IsCi w lo w.heap.size) w lo w.heap.size a kids) (ht : kids.length + wtCis kids ≤ 1048576) :
    Calls Try.prog 38 #[.slice a kids.length cap] w fun r w' => ∃ (a' : Option Addr) (cap' : Nat), r = .returned (.slice a' kids.length cap') ∧ IsCis (IsCi w' w.heap.size w'.heap.size) w' w.heap.size w'.heap.size a' kids ∧ Below w.heap.size w w' := by
  obtain ⟨M, hM, hmk⟩ := makeCis kids.length (by omega)
  have HK := hide hk
  have HH := hide H
  have HT := hide ht
  have HM := hide hM
  have hl : kids.length ≤ 1048576 := by omega
  clear hk H ht hM
  go_enter Try.func38, Try.ntmps38
  go_wp2
  clear hmk
  go_loopw [4] (fun i wr => ∃ k : Nat, k ≤ kids.length ∧ i = .int .i64 k ∧ Hid (Below w.heap.size w wr) ∧ Hid (w.heap.size < wr.heap.size) ∧ Hid (CopiedCi wr w.heap.size  k kids) ∧ Hid (∀ j, j < kids.length * 2 → ∃ v, wr.cell? ⟨w.heap.size, j, none⟩ = some v) ∧ Hid (∀ j, wr.frozen? ⟨w.heap.size, j, none⟩ = false)) (fun i _ => kids.length - (intOf i).toNat)
  case atStart =>
    refine ⟨0, Nat.zero_le _, rfl, hide ((Below.refl _ w).alloc (Nat.le_refl _) _), hide (by simp), hide (fun j _ hj => absurd hj (Nat.not_lt_zero _)), hide (fun j hj => ?_), hide (fun j => by simp)⟩
    rw [World.cell?_alloc_new]
    have : j < M.size := by rw [unhide HM]; exact hj
    exact ⟨_, Array.getElem?_eq_getElem this⟩
  case round =>
    obtain ⟨k, hk, rfl, HB, HZ, HD, HC, HF⟩ := hrel
    by_cases hp : k < kids.length
    · rcases (unhide HK).kept (unhide HB) (unhide HB).size with hq | ⟨b, off, rfl, hbl, hbn, hcs⟩
      · rw [hq] at hp; simp at hp
      obtain ⟨c0, c1, d0, d1, hr⟩ := hcs k hp
      have hs1 := wtCi_step kids k hp
      have hs3 := wtCi_le kids (k + 1)
      obtain ⟨e, he⟩ : ∃ e, kids[k] = e := ⟨_, rfl⟩
      rw [he] at hr hs1
      have hew : e.wt ≤ 1048576 := by have := unhide HT; omega
      have HR := hide hr
      have HE := hide he
      clear hcs hr hs1 hs3 he
      go_wp2_with fail
      refine (unhide HH _ e wr (unhide HR) hew).mono ?_
      rintro r w2 ⟨x0, x1, rfl, hE2, hb2⟩
      obtain ⟨xs, xt, rfl, rfl⟩ := IsCi.form  hE2
      have hz := unhide HZ
      have hcc : ∀ j, j < kids.length * 2 → ∃ v, w2.cell? ⟨w.heap.size, j, none⟩ = some v := fun j hj => by
        obtain ⟨v, hv⟩ := unhide HC j hj
        exact ⟨v, (hb2.cell (p := ⟨w.heap.size, j, none⟩) hz).trans hv⟩
      have hff : ∀ j, w2.frozen? ⟨w.heap.size, j, none⟩ = false := fun j => (hb2.frozen (p := ⟨w.heap.size, j, none⟩) hz).trans (unhide HF j)
      obtain ⟨y0, q0⟩ := hcc (k * 2) (by omega)
      have f0 := hff (k * 2)
      obtain ⟨y1, q1⟩ := hcc (k * 2 + 1) (by omega)
      have f1 := hff (k * 2 + 1)
      have HC2 := hide hcc
      have HF2 := hide hff
      have HE2 := hide hE2
      have HB2 := hide hb2
      clear hcc hff hE2 hb2 hz d0 d1
      have HN : Hid (CopiedCi (put2 w2 w.heap.size (k * 2) (.int .i64 xs) (.int .i64 xt)) w.heap.size  (k + 1) kids) := hide (CopiedCi.next  hp (unhide HD) (unhide HZ) (unhide HB2) (unhide HC2) (by rw [unhide HE]; exact unhide HE2))
      have HB3 := hide (((unhide HB).trans ((unhide HB2).mono (unhide HB).size)).trans (put2_below w2 w.heap.size (k * 2) (.int .i64 xs) (.int .i64 xt) (Nat.le_refl _)))
      have HZ3 : Hid (w.heap.size < (put2 w2 w.heap.size (k * 2) (.int .i64 xs) (.int .i64 xt)).heap.size) := hide (by rw [put2_size]; have := (unhide HB2).size; have := unhide HZ; omega)
      have HF3 : Hid (∀ j, (put2 w2 w.heap.size (k * 2) (.int .i64 xs) (.int .i64 xt)).frozen? ⟨w.heap.size, j, none⟩ = false) := hide (fun j => by rw [put2_frozen]; exact unhide HF2 j)
      have HC3 : Hid (∀ j, j < kids.length * 2 → ∃ v, (put2 w2 w.heap.size (k * 2) (.int .i64 xs) (.int .i64 xt)).cell? ⟨w.heap.size, j, none⟩ = some v) := hide (fun j hj => by
        by_cases ho : j < k * 2 ∨ k * 2 + 2 ≤ j
        · rw [put2_other _ _ _ _ _ _ ho]; exact unhide HC2 j hj
        · obtain ⟨a0, a1⟩ := put2_at w2 w.heap.size (k * 2) (.int .i64 xs) (.int .i64 xt) (fun i h1 h2 => unhide HC2 i (by omega))
          have hj5 : j = k * 2 ∨ j = k * 2 + 1 := by omega
          rcases hj5 with rfl | rfl
          · exact ⟨_, a0⟩
          · exact ⟨_, a1⟩)
      clear HD HC HF HB HZ HE2 HR
      go_wp2
      go_roundw
      case rel => exact ⟨k + 1, by omega, by go_num, HB3, HZ3, HN, HC3, HF3⟩
      case measure => simp [intOf] <;> omega
    · go_wp2
      go_ret
      refine ⟨_, _, rfl, .inr ⟨w.heap.size, 0, rfl, Nat.le_refl _, unhide HZ, fun j hj => ?_⟩, unhide HB⟩
      obtain ⟨c0, c1, d0, d1, hr⟩ := unhide HD j hj (by omega)
      refine ⟨c0, c1, ?_, ?_, IsCi.same  (fun b h1 h2 => rfl) (by omega) (Nat.le_refl _) _ _ hr⟩
      · rw [Nat.zero_add]; exact d0
      · rw [Nat.zero_add]; exact d1
end Go.Proofs.Ytakcpfmpaopfdaa
