/- Rows of signatures: the walks of szFaceSigS, eqFaceSigS, toFaceSigS. Conditions: the rows can be read. -/
import Derived.Test.YtkiaidjkhhljhaaGreatFc
namespace Go.Proofs.YtkiaidjkhhljhaaGreat
open Go.RowKit Go.PlainAid

/-- A row that can be read, all of it in the blocks from lo on and below n, each element as R says. -/
def IsSigs (R : Value → TS → Prop) (w : World) (lo n : Nat) (a : Option Addr) (xs : List TS) : Prop :=
  xs = [] ∨ ∃ b off : Nat, a = some ⟨b, off, none⟩ ∧ lo ≤ b ∧ b < n ∧ ∀ j (hj : j < xs.length), ∃ c0 c1 c2 : Value,
    w.cell? ⟨b, off + j * 3, none⟩ = some c0 ∧ w.cell? ⟨b, off + j * 3 + 1, none⟩ = some c1 ∧ w.cell? ⟨b, off + j * 3 + 2, none⟩ = some c2 ∧ R (.agg #[c0, c1, c2]) xs[j]
theorem IsSigs.mono {R R' : Value → TS → Prop} {w w' : World} {lo n lo' n' : Nat} {a : Option Addr} {xs : List TS} (h : IsSigs R w lo n a xs) (hR : ∀ v e, R v e → R' v e) (hs : Same lo n w w') (hl : lo' ≤ lo) (hn : n ≤ n') : IsSigs R' w' lo' n' a xs := by
  rcases h with h | ⟨b, off, h1, h0, h2, h3⟩
  · exact .inl h
  · refine .inr ⟨b, off, h1, by omega, by omega, fun j hj => ?_⟩
    obtain ⟨c0, c1, c2, d0, d1, d2, hr⟩ := h3 j hj
    have hc : ∀ o, w'.cell? ⟨b, o, none⟩ = w.cell? ⟨b, o, none⟩ := fun o => World.cell?_of_block (w := w) (hs b h0 h2)
    exact ⟨c0, c1, c2, (hc _).trans d0, (hc _).trans d1, (hc _).trans d2, hR _ _ hr⟩
theorem IsSigs.kept  {w w' : World} {lo n m : Nat} {a : Option Addr} {xs : List TS} (hk : IsSigs (IsSig w lo n) w lo n a xs) (hb : Below n w w') (hnm : n ≤ m) : IsSigs (IsSig w' lo m) w' lo m a xs :=
  hk.mono (fun v e he => IsSig.same  (Below.same hb) (Nat.le_refl _) hnm v e he) (Below.same hb) (Nat.le_refl _) hnm
def wtSigs (l : List TS) : Nat := (l.map TS.wt).sum
theorem wtSig_step (xs : List TS) (k : Nat) (h : k < xs.length) : wtSigs (xs.take (k + 1)) = wtSigs (xs.take k) + xs[k].wt := by
  unfold wtSigs; rw [List.take_succ_eq_append_getElem h, List.map_append, List.sum_append]; simp
theorem wtSig_le (xs : List TS) (k : Nat) : wtSigs (xs.take k) ≤ wtSigs xs := by
  have : wtSigs xs = wtSigs (xs.take k) + wtSigs (xs.drop k) := by
    unfold wtSigs
    conv => lhs; rw [← List.take_append_drop k xs]
    rw [List.map_append, List.sum_append]
  omega

/-- The contract of the element's comparing, at elements that are the same. -/
def EqSig (lo lo' : Nat)   : Prop := ∀ (v v' : Value) (e : TS) (w : World), (IsSig w lo w.heap.size) v e → (IsSig w lo' w.heap.size) v' e →
  Calls Tryz.prog 53 #[v, v'] w fun r w' => r = .returned (.bool true) ∧ Below w.heap.size w w'
set_option maxHeartbeats 1000000 in
theorem eqTreeSigS_of (lo lo' : Nat)   (H : EqSig lo lo'  ) (a a' : Option Addr) (cap cap' : Nat) (kids : List TS) (w : World) (hl : kids.length ≤ maxLen) (hk : IsSigs (IsSig w lo w.heap.size) w lo w.heap.size a kids) (hk' : IsSigs (IsSig w lo' w.heap.size) w lo' w.heap.size a' kids) :
    Calls Tryz.prog 18 #[.slice a kids.length cap, .slice a' kids.length cap'] w fun r w' => r = .returned (.bool true) ∧ Below w.heap.size w w' := by
  unfold maxLen at hl
  have HK := hide hk
  have HK' := hide hk'
  have HH := hide H
  have hq : ((kids.length : Int) != (kids.length : Int)) = false := by simp
  clear hk hk' H
  go_enter Tryz.func18, Tryz.ntmps18
  go_wp2
  go_loopw [5] (fun i wr => ∃ k : Nat, k ≤ kids.length ∧ i = .int .i64 k ∧ Hid (Below w.heap.size w wr)) (fun i _ => kids.length - (intOf i).toNat)
  case atStart => exact ⟨0, Nat.zero_le _, rfl, hide (Below.refl _ _)⟩
  case round =>
    obtain ⟨k, hk, rfl, HB⟩ := hrel
    by_cases hp : k < kids.length
    · rcases (unhide HK).kept (unhide HB) (unhide HB).size with hq | ⟨b, off, rfl, hbl, hbn, hcs⟩
      · rw [hq] at hp; simp at hp
      rcases (unhide HK').kept (unhide HB) (unhide HB).size with hq | ⟨b', off', rfl, hbl', hbn', hcs'⟩
      · rw [hq] at hp; simp at hp
      obtain ⟨c0, c1, c2, d0, d1, d2, hr⟩ := hcs k hp
      obtain ⟨c0', c1', c2', d0', d1', d2', hr'⟩ := hcs' k hp
      generalize kids[k] = e at hr hr'
      have HR := hide hr
      have HR' := hide hr'
      clear hcs hcs' hr hr'
      have HQ := hide (fun (W : World) (hb : Below wr.heap.size wr W) => unhide HH _ _ e W (IsSig.same  (Below.same hb) (Nat.le_refl _) hb.size _ _ (unhide HR)) (IsSig.same  (Below.same hb) (Nat.le_refl _) hb.size _ _ (unhide HR')))
      clear HR HR'
      go_wp2
      go_region_with (go_at_call 53; refine (unhide HQ _ (Below.refl _ _).drew).mono ?_; rintro r w2 ⟨rfl, hb2⟩)
      all_goals
        go_wp2
        go_roundw
        case rel => exact ⟨k + 1, by omega, by go_num, hide ((unhide HB).drew.trans (hb2.mono (unhide HB).drew.size))⟩
        case measure => simp [intOf] <;> omega
    · go_wp2
      go_ret
      exact ⟨rfl, unhide HB⟩

/-- 3 cells are written one behind the other. -/
abbrev put3 (w : World) (B o : Nat) (x0 x1 x2 : Value) : World := ((w.setCell ⟨B, o, none⟩ x0).setCell ⟨B, o + 1, none⟩ x1).setCell ⟨B, o + 2, none⟩ x2
theorem put3_size (w : World) (B o : Nat) (x0 x1 x2 : Value) : (put3 w B o x0 x1 x2).heap.size = w.heap.size := by simp [put3, World.setCell]
theorem put3_heap (w : World) (B o : Nat) (x0 x1 x2 : Value) (b : Nat) (h : b ≠ B) : (put3 w B o x0 x1 x2).heap[b]? = w.heap[b]? := by
  unfold put3
  rw [Below.heap_setCell _ _ _ _ (by simpa using h), Below.heap_setCell _ _ _ _ (by simpa using h), Below.heap_setCell _ _ _ _ (by simpa using h)]
theorem put3_below (w : World) (B o : Nat) (x0 x1 x2 : Value) {n : Nat} (h : n ≤ B) : Below n w (put3 w B o x0 x1 x2) :=
  ((((Below.refl n w).setCell (p := ⟨B, o, none⟩) h _).setCell (p := ⟨B, o + 1, none⟩) h _).setCell (p := ⟨B, o + 2, none⟩) h _)
theorem put3_frozen (w : World) (B o : Nat) (x0 x1 x2 : Value) (j : Nat) : (put3 w B o x0 x1 x2).frozen? ⟨B, j, none⟩ = w.frozen? ⟨B, j, none⟩ := by
  unfold put3
  rw [World.frozen?_setCell, World.frozen?_setCell, World.frozen?_setCell]
theorem put3_other (w : World) (B o : Nat) (x0 x1 x2 : Value) (j : Nat) (h : j < o ∨ o + 3 ≤ j) : (put3 w B o x0 x1 x2).cell? ⟨B, j, none⟩ = w.cell? ⟨B, j, none⟩ := by
  unfold put3
  rw [cell_other _ _ _ _ _ (by omega), cell_other _ _ _ _ _ (by omega), cell_other _ _ _ _ _ (by omega)]
theorem put3_at (w : World) (B o : Nat) (x0 x1 x2 : Value) (h : ∀ j, o ≤ j → j < o + 3 → ∃ v, w.cell? ⟨B, j, none⟩ = some v) :
    (put3 w B o x0 x1 x2).cell? ⟨B, o, none⟩ = some x0 ∧ (put3 w B o x0 x1 x2).cell? ⟨B, o + 1, none⟩ = some x1 ∧ (put3 w B o x0 x1 x2).cell? ⟨B, o + 2, none⟩ = some x2 := by
  have hs : ∀ j, o ≤ j → j < o + 3 → (w.cell? ⟨B, j, none⟩).isSome = true := fun j h1 h2 => by obtain ⟨v, hv⟩ := h j h1 h2; rw [hv]; rfl
  unfold put3
  refine ⟨?_, ?_, ?_⟩
  · rw [cell_other _ _ _ _ _ (by omega), cell_other _ _ _ _ _ (by omega)]
    exact cell_same _ _ _ _ (hs _ (by omega) (by omega))
  · rw [cell_other _ _ _ _ _ (by omega)]
    exact cell_same _ _ _ _ (by rw [cell_other _ _ _ _ _ (by omega)]; exact hs _ (by omega) (by omega))
  · exact cell_same _ _ _ _ (by rw [cell_other _ _ _ _ _ (by omega), cell_other _ _ _ _ _ (by omega)]; exact hs _ (by omega) (by omega))
theorem infoSig : (Tryz.prog.info? 65).map (fun i => (i.zero, i.size, i.bytes)) = some (some (.agg #[.string ⟨#[]⟩, .slice none 0 0, .int .i64 0]), 3, 48) := by kernel_rfl
theorem makeSigs (n : Nat) (hn : n ≤ 1048576) : ∃ M : Array Value, M.size = n * 3 ∧ ∀ W : World, (Instr.makeSlice 34 (.int .i64 (n : Int)) (.int .i64 (n : Int))).run Tryz.prog W = .ok (.slice (some ⟨W.heap.size, 0, none⟩) n n) (W.alloc (.cells M 65)) := by
  obtain ⟨i0, hi, hz0, hz1, hz2⟩ := info_parts infoSig
  refine ⟨madeCells (Value.cells (.agg #[.string ⟨#[]⟩, .slice none 0 0, .int .i64 0])) (((n : Nat) : Int).toNat * i0.size), by rw [size_madeCells, hz1]; simp, fun W => ?_⟩
  have h := run_make (P := Tryz.prog) W 34 65 i0 _ Tryz.underlying34 hi hz0 .i64 .i64 (n : Int) (n : Int) (by omega) (by omega) (by rw [hz2]; omega) (by omega)
  simpa using h
/-- The first k elements lie copied in the block B. -/
def CopiedSig (w : World) (B : Nat)  (k : Nat) (kids : List TS) : Prop := ∀ j (hj : j < kids.length), j < k → ∃ c0 c1 c2 : Value,
  w.cell? ⟨B, j * 3, none⟩ = some c0 ∧ w.cell? ⟨B, j * 3 + 1, none⟩ = some c1 ∧ w.cell? ⟨B, j * 3 + 2, none⟩ = some c2 ∧ (IsSig w (B + 1) w.heap.size) (.agg #[c0, c1, c2]) kids[j]
theorem CopiedSig.next {w w2 : World} {B : Nat}  {k : Nat} {kids : List TS} {x0 x1 x2 : Value} (hp : k < kids.length) (hD : CopiedSig w B  k kids) (hz : B < w.heap.size) (hb2 : Below w.heap.size w w2)
    (hc : ∀ j, j < kids.length * 3 → ∃ v, w2.cell? ⟨B, j, none⟩ = some v) (hE : (IsSig w2 w.heap.size w2.heap.size) (.agg #[x0, x1, x2]) (kids[k]'hp)) : CopiedSig (put3 w2 B (k * 3) x0 x1 x2) B  (k + 1) kids := by
  intro j hj hjk
  have hs2 : Same (B + 1) w2.heap.size w2 (put3 w2 B (k * 3) x0 x1 x2) := fun b h1 h2 => put3_heap _ _ _ _ _ _ b (by omega)
  have hsz := put3_size w2 B (k * 3) x0 x1 x2
  by_cases e : j = k
  · subst e
    obtain ⟨a0, a1, a2⟩ := put3_at w2 B (j * 3) x0 x1 x2 (fun i h1 h2 => hc i (by omega))
    exact ⟨x0, x1, x2, a0, a1, a2, IsSig.same  (fun b h1 h2 => hs2 b (by omega) h2) (by omega) (by omega) _ _ hE⟩
  · obtain ⟨c0, c1, c2, d0, d1, d2, hr⟩ := hD j hj (by omega)
    have hcc : ∀ i, i < k * 3 → (put3 w2 B (k * 3) x0 x1 x2).cell? ⟨B, i, none⟩ = w.cell? ⟨B, i, none⟩ := fun i hi =>
      (put3_other w2 B (k * 3) x0 x1 x2 i (by omega)).trans (hb2.cell (p := ⟨B, i, none⟩) hz)
    refine ⟨c0, c1, c2, (hcc _ (by omega)).trans d0, (hcc _ (by omega)).trans d1, (hcc _ (by omega)).trans d2, IsSig.same  (fun b h1 h2 => ?_) (Nat.le_refl _) (by have := hb2.size; omega) _ _ hr⟩
    exact (hs2 b h1 (by have := hb2.size; omega)).trans (hb2.block b h2)

end Go.Proofs.YtkiaidjkhhljhaaGreat
