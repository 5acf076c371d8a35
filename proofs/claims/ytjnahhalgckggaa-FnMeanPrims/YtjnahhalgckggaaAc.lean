/- The walks of toMeanValS and toMeanVal: the copy may be written. Conditions: the rows can be read. -/
import Derived.Test.YtjnahhalgckggaaAb
import Derived.Test.YtjnahhalgckggaaZa
namespace Go.Proofs.Ytjnahhalgckggaa
open Go.RowKit Go.PlainAid

set_option maxHeartbeats 1000000 in
theorem toIntS_anyZ (lo : Nat) (a : Option Addr) (cap : Nat) (zs : List Int) (w : World) (h : IsInts w lo w.heap.size a zs) (hl : zs.length ≤ 1048576) :
    Calls Try.prog 38 #[.slice a zs.length cap] w fun e w' => ∃ (a' : Option Addr) (cap' : Nat), e = .returned (.slice a' zs.length cap') ∧ zs.length ≤ cap' ∧ IsInts w' w.heap.size w'.heap.size a' zs ∧ Bf w.heap.size w w' := by
  obtain ⟨M, hM, hmk⟩ := make_ints zs.length hl
  have HW := hide h
  have HM := hide hM
  clear h hM
  go_enter Try.func38, Try.ntmps38
  go_wp2
  clear hmk
  go_loopw [4] (fun i wr => ∃ k : Nat, k ≤ zs.length ∧ i = .int .i64 k ∧ Hid (Bf w.heap.size w wr) ∧ Hid (w.heap.size < wr.heap.size) ∧ Hid (∀ j (hj : j < zs.length), j < k → wr.cell? ⟨w.heap.size, j, none⟩ = some (.int .i64 zs[j])) ∧ Hid (∀ j, j < zs.length → ∃ v, wr.cell? ⟨w.heap.size, j, none⟩ = some v) ∧ Hid (∀ j, wr.frozen? ⟨w.heap.size, j, none⟩ = false)) (fun i _ => zs.length - (intOf i).toNat)
  case atStart =>
    refine ⟨0, Nat.zero_le _, rfl, hide ((Bf.refl _ w).alloc (Nat.le_refl _) _), hide (by simp), hide (fun j _ hj => absurd hj (Nat.not_lt_zero _)), hide (fun j hj => ?_), hide (fun j => by simp)⟩
    rw [World.cell?_alloc_new]
    have : j < M.size := by rw [unhide HM]; exact hj
    exact ⟨_, Array.getElem?_eq_getElem this⟩
  case round =>
    obtain ⟨k, hk, rfl, HB, HZ, HD, HC, HF⟩ := hrel
    by_cases hp : k < zs.length
    · rcases (unhide HW).kept (unhide HB).toBelow (Nat.le_refl _) with h | ⟨b, off, rfl, hbl, hb, hc⟩
      · rw [h] at hp; simp at hp
      have hck := hc k hp
      obtain ⟨v, hv⟩ := unhide HC k hp
      have hf := unhide HF k
      obtain ⟨x, hx⟩ : ∃ x, zs[k]'hp = x := ⟨_, rfl⟩
      rw [hx] at hck
      have HX := hide hx
      clear hc hx
      go_wp2
      go_roundw
      case rel =>
        refine ⟨k + 1, by omega, by go_num, hide ((unhide HB).setCell (p := ⟨w.heap.size, k, none⟩) (Nat.le_refl _) _), hide (by simpa [World.setCell] using unhide HZ), hide (fun j hj hjk => ?_), hide (fun j hj => ?_), hide (fun j => by rw [World.frozen?_setCell]; exact unhide HF j)⟩
        · by_cases e : j = k
          · subst e
            rw [unhide HX]
            exact World.cell?_setCell_same' _ _ _ (by rw [hv]; rfl)
          · rw [World.cell?_setCell_other _ ⟨w.heap.size, k, none⟩ ⟨w.heap.size, j, none⟩ _ (by simp <;> omega)]
            exact unhide HD j hj (by omega)
        · by_cases e : j = k
          · subst e
            exact ⟨_, World.cell?_setCell_same' _ _ _ (by rw [hv]; rfl)⟩
          · rw [World.cell?_setCell_other _ ⟨w.heap.size, k, none⟩ ⟨w.heap.size, j, none⟩ _ (by simp <;> omega)]
            exact unhide HC j hj
      case measure => simp [intOf]; omega
    · go_wp2
      go_ret
      refine ⟨_, _, rfl, Nat.le_refl _, .inr ⟨w.heap.size, 0, rfl, Nat.le_refl _, unhide HZ, fun j hj => ?_⟩, unhide HB⟩
      rw [Nat.zero_add]
      exact unhide HD j hj (by omega)

theorem put3_belowZ (w : World) (B o : Nat) (x0 x1 x2 : Value) {n : Nat} (h : n ≤ B) : Bf n w (put3 w B o x0 x1 x2) :=
  ((((Bf.refl n w).setCell (p := ⟨B, o, none⟩) h _).setCell (p := ⟨B, o + 1, none⟩) h _).setCell (p := ⟨B, o + 2, none⟩) h _)
/-- The contract of the element's copying. -/
def ToMvZ (lo : Nat)  : Prop := ∀ (v : Value) (e : MV) (w : World), (IsMv w lo w.heap.size) v e → e.wt ≤ 1048576 →
  Calls Try.prog 25 #[v] w fun r w' => ∃ c0 c1 c2 : Value, r = .returned (.agg #[c0, c1, c2]) ∧ (IsMv w' w.heap.size w'.heap.size) (.agg #[c0, c1, c2]) e ∧ Bf w.heap.size w w'
theorem CopiedMv.nextZ {w w2 : World} {B : Nat}  {k : Nat} {kids : List MV} {x0 x1 x2 : Value} (hp : k < kids.length) (hD : CopiedMv w B  k kids) (hz : B < w.heap.size) (hb2 : Bf w.heap.size w w2)
    (hc : ∀ j, j < kids.length * 3 → ∃ v, w2.cell? ⟨B, j, none⟩ = some v) (hE : (IsMv w2 w.heap.size w2.heap.size) (.agg #[x0, x1, x2]) (kids[k]'hp)) : CopiedMv (put3 w2 B (k * 3) x0 x1 x2) B  (k + 1) kids := by
  intro j hj hjk
  have hs2 : Same (B + 1) w2.heap.size w2 (put3 w2 B (k * 3) x0 x1 x2) := fun b h1 h2 => put3_heap _ _ _ _ _ _ b (by omega)
  have hsz := put3_size w2 B (k * 3) x0 x1 x2
  by_cases e : j = k
  · subst e
    obtain ⟨a0, a1, a2⟩ := put3_at w2 B (j * 3) x0 x1 x2 (fun i h1 h2 => hc i (by omega))
    exact ⟨x0, x1, x2, a0, a1, a2, IsMv.same  (fun b h1 h2 => hs2 b (by omega) h2) (by omega) (by omega) _ _ hE⟩
  · obtain ⟨c0, c1, c2, d0, d1, d2, hr⟩ := hD j hj (by omega)
    have hcc : ∀ i, i < k * 3 → (put3 w2 B (k * 3) x0 x1 x2).cell? ⟨B, i, none⟩ = w.cell? ⟨B, i, none⟩ := fun i hi =>
      (put3_other w2 B (k * 3) x0 x1 x2 i (by omega)).trans (hb2.cell (p := ⟨B, i, none⟩) hz)
    refine ⟨c0, c1, c2, (hcc _ (by omega)).trans d0, (hcc _ (by omega)).trans d1, (hcc _ (by omega)).trans d2, IsMv.same  (fun b h1 h2 => ?_) (Nat.le_refl _) (by have := hb2.size; omega) _ _ hr⟩
    exact (hs2 b h1 (by have := hb2.size; omega)).trans (hb2.block b h2)

set_option maxHeartbeats 1000000 in
theorem toMeanValS_ofZ (lo : Nat)  (H : ToMvZ lo ) (a : Option Addr) (cap : Nat) (kids : List MV) (w : World) (hk : IsMvs (IsMv w lo w.heap.size) w lo w.heap.size a kids) (ht : kids.length + wtMvs kids ≤ 1048576) :
    Calls Try.prog 9 #[.slice a kids.length cap] w fun r w' => ∃ (a' : Option Addr) (cap' : Nat), r = .returned (.slice a' kids.length cap') ∧ IsMvs (IsMv w' w.heap.size w'.heap.size) w' w.heap.size w'.heap.size a' kids ∧ Bf w.heap.size w w' := by
  obtain ⟨M, hM, hmk⟩ := makeMvs kids.length (by omega)
  have HK := hide hk
  have HH := hide H
  have HT := hide ht
  have HM := hide hM
  have hl : kids.length ≤ 1048576 := by omega
  clear hk H ht hM
  go_enter Try.func9, Try.ntmps9
  go_wp2
  clear hmk
  go_loopw [4] (fun i wr => ∃ k : Nat, k ≤ kids.length ∧ i = .int .i64 k ∧ Hid (Bf w.heap.size w wr) ∧ Hid (w.heap.size < wr.heap.size) ∧ Hid (CopiedMv wr w.heap.size  k kids) ∧ Hid (∀ j, j < kids.length * 3 → ∃ v, wr.cell? ⟨w.heap.size, j, none⟩ = some v) ∧ Hid (∀ j, wr.frozen? ⟨w.heap.size, j, none⟩ = false)) (fun i _ => kids.length - (intOf i).toNat)
  case atStart =>
    refine ⟨0, Nat.zero_le _, rfl, hide ((Bf.refl _ w).alloc (Nat.le_refl _) _), hide (by simp), hide (fun j _ hj => absurd hj (Nat.not_lt_zero _)), hide (fun j hj => ?_), hide (fun j => by simp)⟩
    rw [World.cell?_alloc_new]
    have : j < M.size := by rw [unhide HM]; exact hj
    exact ⟨_, Array.getElem?_eq_getElem this⟩
  case round =>
    obtain ⟨k, hk, rfl, HB, HZ, HD, HC, HF⟩ := hrel
    by_cases hp : k < kids.length
    · rcases (unhide HK).kept (unhide HB).toBelow (unhide HB).size with hq | ⟨b, off, rfl, hbl, hbn, hcs⟩
      · rw [hq] at hp; simp at hp
      obtain ⟨c0, c1, c2, d0, d1, d2, hr⟩ := hcs k hp
      have hs1 := wtMv_step kids k hp
      have hs3 := wtMv_le kids (k + 1)
      obtain ⟨e, he⟩ : ∃ e, kids[k] = e := ⟨_, rfl⟩
      rw [he] at hr hs1
      have hew : e.wt ≤ 1048576 := by have := unhide HT; omega
      have HR := hide hr
      have HE := hide he
      clear hcs hr hs1 hs3 he
      go_wp2_with fail
      refine (unhide HH _ e wr (unhide HR) hew).mono ?_
      rintro r w2 ⟨x0, x1, x2, rfl, hE2, hb2⟩
      obtain ⟨xk, xn, xa, xl, xc, rfl, rfl, rfl⟩ := IsMv.form  hE2
      have hz := unhide HZ
      have hcc : ∀ j, j < kids.length * 3 → ∃ v, w2.cell? ⟨w.heap.size, j, none⟩ = some v := fun j hj => by
        obtain ⟨v, hv⟩ := unhide HC j hj
        exact ⟨v, (hb2.cell (p := ⟨w.heap.size, j, none⟩) hz).trans hv⟩
      have hff : ∀ j, w2.frozen? ⟨w.heap.size, j, none⟩ = false := fun j => (hb2.frozen (p := ⟨w.heap.size, j, none⟩) hz).trans (unhide HF j)
      obtain ⟨y0, q0⟩ := hcc (k * 3) (by omega)
      have f0 := hff (k * 3)
      obtain ⟨y1, q1⟩ := hcc (k * 3 + 1) (by omega)
      have f1 := hff (k * 3 + 1)
      obtain ⟨y2, q2⟩ := hcc (k * 3 + 2) (by omega)
      have f2 := hff (k * 3 + 2)
      have HC2 := hide hcc
      have HF2 := hide hff
      have HE2 := hide hE2
      have HB2 := hide hb2
      clear hcc hff hE2 hb2 hz d0 d1 d2
      have HN : Hid (CopiedMv (put3 w2 w.heap.size (k * 3) (.int .i64 xk) (.int .i64 xn) (.slice xa xl xc)) w.heap.size  (k + 1) kids) := hide (CopiedMv.nextZ  hp (unhide HD) (unhide HZ) (unhide HB2) (unhide HC2) (by rw [unhide HE]; exact unhide HE2))
      have HB3 := hide (((unhide HB).trans ((unhide HB2).mono (unhide HB).size)).trans (put3_belowZ w2 w.heap.size (k * 3) (.int .i64 xk) (.int .i64 xn) (.slice xa xl xc) (Nat.le_refl _)))
      have HZ3 : Hid (w.heap.size < (put3 w2 w.heap.size (k * 3) (.int .i64 xk) (.int .i64 xn) (.slice xa xl xc)).heap.size) := hide (by rw [put3_size]; have := (unhide HB2).size; have := unhide HZ; omega)
      have HF3 : Hid (∀ j, (put3 w2 w.heap.size (k * 3) (.int .i64 xk) (.int .i64 xn) (.slice xa xl xc)).frozen? ⟨w.heap.size, j, none⟩ = false) := hide (fun j => by rw [put3_frozen]; exact unhide HF2 j)
      have HC3 : Hid (∀ j, j < kids.length * 3 → ∃ v, (put3 w2 w.heap.size (k * 3) (.int .i64 xk) (.int .i64 xn) (.slice xa xl xc)).cell? ⟨w.heap.size, j, none⟩ = some v) := hide (fun j hj => by
        by_cases ho : j < k * 3 ∨ k * 3 + 3 ≤ j
        · rw [put3_other _ _ _ _ _ _ _ ho]; exact unhide HC2 j hj
        · obtain ⟨a0, a1, a2⟩ := put3_at w2 w.heap.size (k * 3) (.int .i64 xk) (.int .i64 xn) (.slice xa xl xc) (fun i h1 h2 => unhide HC2 i (by omega))
          have hj5 : j = k * 3 ∨ j = k * 3 + 1 ∨ j = k * 3 + 2 := by omega
          rcases hj5 with rfl | rfl | rfl
          · exact ⟨_, a0⟩
          · exact ⟨_, a1⟩
          · exact ⟨_, a2⟩)
      clear HD HC HF HB HZ HE2 HR
      go_wp2
      go_roundw
      case rel => exact ⟨k + 1, by omega, by go_num, HB3, HZ3, HN, HC3, HF3⟩
      case measure => simp [intOf] <;> omega
    · go_wp2
      go_ret
      refine ⟨_, _, rfl, .inr ⟨w.heap.size, 0, rfl, Nat.le_refl _, unhide HZ, fun j hj => ?_⟩, unhide HB⟩
      obtain ⟨c0, c1, c2, d0, d1, d2, hr⟩ := unhide HD j hj (by omega)
      refine ⟨c0, c1, c2, ?_, ?_, ?_, IsMv.same  (fun b h1 h2 => rfl) (by omega) (Nat.le_refl _) _ _ hr⟩
      · rw [Nat.zero_add]; exact d0
      · rw [Nat.zero_add]; exact d1
      · rw [Nat.zero_add]; exact d2
set_option maxHeartbeats 2000000 in
theorem toMeanVal_anyZ (lo : Nat) : ToMvZ lo := by
  intro v f w hF ht
  obtain ⟨kd, nu, args⟩ := f
  obtain ⟨aa, ca, rfl, hz, ha⟩ := hF
  dsimp only at hz ha ⊢
  have ht' : args.length ≤ 1048576 := ht
  have HA := hide (fun (w' : World) (hb : Bf w.heap.size w w') => toIntS_anyZ lo aa ca args w' (ha.kept hb.toBelow hb.size) (by omega))
  have HZ := hide hz
  clear ha ht ht' hz
  go_enter Try.func25, Try.ntmps25
  go_wp2_with fail
  refine (unhide HA _ ((((Bf.refl _ w).alloc (Nat.le_refl _) _).alloc (by simp) _).alloc (by simp; omega) _)).mono ?_
  rintro r w2 ⟨a', cap', rfl, hcap, hk2, hb2⟩
  have hB2 : Bf w.heap.size w w2 := (((((Bf.refl _ w).alloc (Nat.le_refl _) _).alloc (by simp) _).alloc (by simp; omega) _)).trans (hb2.mono (by simp; omega))
  rw [alloc_size, alloc_size, alloc_size] at hk2
  have n2 : Blk w2 (w.heap.size + 1) [Value.int .i64 0, Value.int .i64 0, Value.slice none 0 0] := by
    have := ((Blk.new (w.alloc (.cells #[Value.int .i64 kd, Value.int .i64 nu, Value.slice aa args.length ca] 50)) [Value.int .i64 0, Value.int .i64 0, Value.slice none 0 0] 28).old (.cells #[.int .i64 kd, .int .i64 nu, .slice none 0 0] 28) (by simp only [alloc_size]; omega)).below hb2.toBelow (by simp only [alloc_size]; omega)
    rw [alloc_size] at this
    exact this
  have n3 : Blk w2 (w.heap.size + 1 + 1) [.int .i64 kd, .int .i64 nu, .slice none 0 0] := by
    have := (Blk.new ((w.alloc (.cells #[Value.int .i64 kd, Value.int .i64 nu, Value.slice aa args.length ca] 50)).alloc (.cells #[Value.int .i64 0, Value.int .i64 0, Value.slice none 0 0] 28)) [.int .i64 kd, .int .i64 nu, .slice none 0 0] 28).below hb2.toBelow (by simp only [alloc_size]; omega)
    rw [alloc_size, alloc_size] at this
    exact this
  have hS2 : w.heap.size + 3 ≤ w2.heap.size := by have := hb2.size; rw [alloc_size, alloc_size, alloc_size] at this; omega
  have o0 : w2.cell? ⟨w.heap.size + 1 + 1, 0, none⟩ = some (.int .i64 kd) := n3.1 0
  have o1 : w2.cell? ⟨w.heap.size + 1 + 1, 1, none⟩ = some (.int .i64 nu) := n3.1 1
  have o2 : w2.cell? ⟨w.heap.size + 1 + 1, 2, none⟩ = some (.slice none 0 0) := n3.1 2
  have g2 : w2.frozen? ⟨w.heap.size + 1 + 1, 2, none⟩ = false := n3.2 2
  have q0 : w2.cell? ⟨w.heap.size + 1, 0, none⟩ = some (Value.int .i64 0) := n2.1 0
  have q1 : w2.cell? ⟨w.heap.size + 1, 1, none⟩ = some (Value.int .i64 0) := n2.1 1
  have q2 : w2.cell? ⟨w.heap.size + 1, 2, none⟩ = some (Value.slice none 0 0) := n2.1 2
  have f0 : w2.frozen? ⟨w.heap.size + 1, 0, none⟩ = false := n2.2 0
  have f1 : w2.frozen? ⟨w.heap.size + 1, 1, none⟩ = false := n2.2 1
  have f2 : w2.frozen? ⟨w.heap.size + 1, 2, none⟩ = false := n2.2 2
  have HN := hide ((((n2.other (w.heap.size + 1 + 1) 2 (.slice a' args.length cap') (by omega)).set 0 (.int .i64 kd) (by simp)).set 1 (.int .i64 nu) (by simp)).set 2 (.slice a' args.length cap') (by simp))
  have HFB := hide ((((((Bf.refl w.heap.size w2).setCell (p := ⟨w.heap.size + 1 + 1, 2, none⟩) (by simp; omega) (.slice a' args.length cap')).setCell (p := ⟨w.heap.size + 1, 0, none⟩) (by simp) (.int .i64 kd)).setCell (p := ⟨w.heap.size + 1, 1, none⟩) (by simp) (.int .i64 nu)).setCell (p := ⟨w.heap.size + 1, 2, none⟩) (by simp) (.slice a' args.length cap')))
  have HB2 := hide hB2
  have HK2 := hide hk2
  have HS2 := hide hS2
  clear n2 n3 hb2 hB2 hk2 hS2
  go_wp2
  obtain ⟨F, hF⟩ : ∃ F, F = ((((w2.setCell ⟨w.heap.size + 1 + 1, 2, none⟩ (.slice a' args.length cap')).setCell ⟨w.heap.size + 1, 0, none⟩ (.int .i64 kd)).setCell ⟨w.heap.size + 1, 1, none⟩ (.int .i64 nu)).setCell ⟨w.heap.size + 1, 2, none⟩ (.slice a' args.length cap')) := ⟨_, rfl⟩
  have hFO : Same (w.heap.size + 3) w2.heap.size w2 F := fun b h1 h2 => by rw [hF, Below.heap_setCell _ _ _ _ (by simp; omega), Below.heap_setCell _ _ _ _ (by simp; omega), Below.heap_setCell _ _ _ _ (by simp; omega), Below.heap_setCell _ _ _ _ (by simp; omega)]
  have hFS : F.heap.size = w2.heap.size := by rw [hF]; simp [World.setCell]
  rw [← hF] at HN HFB ⊢
  have e := (unhide HN).1
  have e0 : F.cell? ⟨w.heap.size + 1, 0, none⟩ = some (Value.int .i64 kd) := e 0
  have e1 : F.cell? ⟨w.heap.size + 1, 1, none⟩ = some (Value.int .i64 nu) := e 1
  have e2 : F.cell? ⟨w.heap.size + 1, 2, none⟩ = some (Value.slice a' args.length cap') := e 2
  refine bodyPost_ret (v := .agg #[Value.int .i64 kd, Value.int .i64 nu, Value.slice a' args.length cap']) (by simp [results, Try.results25, go_sem, e0, e1, e2]) rfl ?_
  refine ⟨_, _, _, rfl, ⟨a', cap', rfl, unhide HZ, ?_⟩, (unhide HB2).trans (unhide HFB)⟩
  exact (unhide HK2).same hFO (by omega) (by omega)
end Go.Proofs.Ytjnahhalgckggaa
