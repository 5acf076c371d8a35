/- The walks of toStringS, toGraphNodeS and toGraphNode once more: the copy may be written. Conditions: the rows can be read. -/
import Derived.Test.YtgdeehldpmfpgaaZa
import Derived.Test.YtgdeehldpmfpgaaQd
namespace Go.Proofs.Ytgdeehldpmfpgaa
open Go.RowKit Go.PlainAid

set_option maxHeartbeats 1000000 in
theorem toWds_anyZ (lo : Nat) (a : Option Addr) (cap : Nat) (ws : List ByteArray) (w : World) (h : IsWds w lo w.heap.size a ws) (hl : ws.length ≤ 1048576) :
    Calls Try.prog 29 #[.slice a ws.length cap] w fun e w' => ∃ (a' : Option Addr) (cap' : Nat), e = .returned (.slice a' ws.length cap') ∧ ws.length ≤ cap' ∧ IsWds w' w.heap.size w'.heap.size a' ws ∧ Bf w.heap.size w w' := by
  obtain ⟨M, hM, hmk⟩ := make_wds ws.length hl
  have HW := hide h
  have HM := hide hM
  clear h hM
  go_enter Try.func29, Try.ntmps29
  go_wp2
  clear hmk
  go_loopw [4] (fun i wr => ∃ k : Nat, k ≤ ws.length ∧ i = .int .i64 k ∧ Hid (Bf w.heap.size w wr) ∧ Hid (w.heap.size < wr.heap.size) ∧ Hid (∀ j (hj : j < ws.length), j < k → wr.cell? ⟨w.heap.size, j, none⟩ = some (.string ws[j])) ∧ Hid (∀ j, j < ws.length → ∃ v, wr.cell? ⟨w.heap.size, j, none⟩ = some v) ∧ Hid (∀ j, wr.frozen? ⟨w.heap.size, j, none⟩ = false)) (fun i _ => ws.length - (intOf i).toNat)
  case atStart =>
    refine ⟨0, Nat.zero_le _, rfl, hide ((Bf.refl _ w).alloc (Nat.le_refl _) _), hide (by simp), hide (fun j _ hj => absurd hj (Nat.not_lt_zero _)), hide (fun j hj => ?_), hide (fun j => by simp)⟩
    rw [World.cell?_alloc_new]
    have : j < M.size := by rw [unhide HM]; exact hj
    exact ⟨_, Array.getElem?_eq_getElem this⟩
  case round =>
    obtain ⟨k, hk, rfl, HB, HZ, HD, HC, HF⟩ := hrel
    by_cases hp : k < ws.length
    · rcases (unhide HW).kept (unhide HB).toBelow (Nat.le_refl _) with h | ⟨b, off, rfl, hbl, hb, hc⟩
      · rw [h] at hp; simp at hp
      have hck := hc k hp
      obtain ⟨v, hv⟩ := unhide HC k hp
      have hf := unhide HF k
      obtain ⟨x, hx⟩ : ∃ x, ws[k]'hp = x := ⟨_, rfl⟩
      rw [hx] at hck
      have HX := hide hx
      clear hc hx
      go_wp2
      go_roundw
      case rel =>
        refine ⟨k + 1, by omega, by go_num, hide ((unhide HB).setCell (p := ⟨w.heap.size, k, none⟩) (Nat.le_refl _) _), hide (by simpa [World.setCell] using unhide HZ), hide (fun j hj hjk => ?_), hide (fun j hj => ?_), hide (fun j => by rw [World.frozen?_setCell]; exact unhide HF j)⟩
        · by_cases e : j = k
          · subst e
            rw [unhide HX]
            exact World.cell?_setCell_same' _ _ _ (by rw [hv]; rfl)
          · rw [World.cell?_setCell_other _ ⟨w.heap.size, k, none⟩ ⟨w.heap.size, j, none⟩ _ (by simp <;> omega)]
            exact unhide HD j hj (by omega)
        · by_cases e : j = k
          · subst e
            exact ⟨_, World.cell?_setCell_same' _ _ _ (by rw [hv]; rfl)⟩
          · rw [World.cell?_setCell_other _ ⟨w.heap.size, k, none⟩ ⟨w.heap.size, j, none⟩ _ (by simp <;> omega)]
            exact unhide HC j hj
      case measure => simp [intOf]; omega
    · go_wp2
      go_ret
      refine ⟨_, _, rfl, Nat.le_refl _, .inr ⟨w.heap.size, 0, rfl, Nat.le_refl _, unhide HZ, fun j hj => ?_⟩, unhide HB⟩
      rw [Nat.zero_add]
      exact unhide HD j hj (by omega)

theorem put2_belowZ (w : World) (B o : Nat) (x0 x1 : Value) {n : Nat} (h : n ≤ B) : Bf n w (put2 w B o x0 x1) :=
  (((Bf.refl n w).setCell (p := ⟨B, o, none⟩) h _).setCell (p := ⟨B, o + 1, none⟩) h _)
/-- The contract of the element's copying. -/
def ToGnZ (lo : Nat)  : Prop := ∀ (v : Value) (e : TG) (w : World), (IsGn w lo w.heap.size) v e → e.wt ≤ 1048576 →
  Calls Try.prog 49 #[v] w fun r w' => ∃ c0 c1 : Value, r = .returned (.agg #[c0, c1]) ∧ (IsGn w' w.heap.size w'.heap.size) (.agg #[c0, c1]) e ∧ Bf w.heap.size w w'
theorem CopiedGn.nextZ {w w2 : World} {B : Nat}  {k : Nat} {kids : List TG} {x0 x1 : Value} (hp : k < kids.length) (hD : CopiedGn w B  k kids) (hz : B < w.heap.size) (hb2 : Bf w.heap.size w w2)
    (hc : ∀ j, j < kids.length * 2 → ∃ v, w2.cell? ⟨B, j, none⟩ = some v) (hE : (IsGn w2 w.heap.size w2.heap.size) (.agg #[x0, x1]) (kids[k]'hp)) : CopiedGn (put2 w2 B (k * 2) x0 x1) B  (k + 1) kids := by
  intro j hj hjk
  have hs2 : Same (B + 1) w2.heap.size w2 (put2 w2 B (k * 2) x0 x1) := fun b h1 h2 => put2_heap _ _ _ _ _ b (by omega)
  have hsz := put2_size w2 B (k * 2) x0 x1
  by_cases e : j = k
  · subst e
    obtain ⟨a0, a1⟩ := put2_at w2 B (j * 2) x0 x1 (fun i h1 h2 => hc i (by omega))
    exact ⟨x0, x1, a0, a1, IsGn.same  (fun b h1 h2 => hs2 b (by omega) h2) (by omega) (by omega) _ _ hE⟩
  · obtain ⟨c0, c1, d0, d1, hr⟩ := hD j hj (by omega)
    have hcc : ∀ i, i < k * 2 → (put2 w2 B (k * 2) x0 x1).cell? ⟨B, i, none⟩ = w.cell? ⟨B, i, none⟩ := fun i hi =>
      (put2_other w2 B (k * 2) x0 x1 i (by omega)).trans (hb2.cell (p := ⟨B, i, none⟩) hz)
    refine ⟨c0, c1, (hcc _ (by omega)).trans d0, (hcc _ (by omega)).trans d1, IsGn.same  (fun b h1 h2 => ?_) (Nat.le_refl _) (by have := hb2.size; omega) _ _ hr⟩
    exact (hs2 b h1 (by have := hb2.size; omega)).trans (hb2.block b h2)

set_option maxHeartbeats 1000000 in
theorem toTreeGnS_ofZ (lo : Nat)  (H : ToGnZ lo ) (a : Option Addr) (cap : Nat) (kids : List TG) (w : World) (hk : IsGns (IsGn w lo w.heap.size) w lo w.heap.size a kids) (ht : kids.length + wtGns kids ≤ 1048576) :
    Calls Try.prog 22 #[.slice a kids.length cap] w fun r w' => ∃ (a' : Option Addr) (cap' : Nat), r = .returned (.slice a' kids.length cap') ∧ IsGns (IsGn w' w.heap.size w'.heap.size) w' w.heap.size w'.heap.size a' kids ∧ Bf w.heap.size w w' := by
  obtain ⟨M, hM, hmk⟩ := makeGns kids.length (by omega)
  have HK := hide hk
  have HH := hide H
  have HT := hide ht
  have HM := hide hM
  have hl : kids.length ≤ 1048576 := by omega
  clear hk H ht hM
  go_enter Try.func22, Try.ntmps22
  go_wp2
  clear hmk
  go_loopw [4] (fun i wr => ∃ k : Nat, k ≤ kids.length ∧ i = .int .i64 k ∧ Hid (Bf w.heap.size w wr) ∧ Hid (w.heap.size < wr.heap.size) ∧ Hid (CopiedGn wr w.heap.size  k kids) ∧ Hid (∀ j, j < kids.length * 2 → ∃ v, wr.cell? ⟨w.heap.size, j, none⟩ = some v) ∧ Hid (∀ j, wr.frozen? ⟨w.heap.size, j, none⟩ = false)) (fun i _ => kids.length - (intOf i).toNat)
  case atStart =>
    refine ⟨0, Nat.zero_le _, rfl, hide ((Bf.refl _ w).alloc (Nat.le_refl _) _), hide (by simp), hide (fun j _ hj => absurd hj (Nat.not_lt_zero _)), hide (fun j hj => ?_), hide (fun j => by simp)⟩
    rw [World.cell?_alloc_new]
    have : j < M.size := by rw [unhide HM]; exact hj
    exact ⟨_, Array.getElem?_eq_getElem this⟩
  case round =>
    obtain ⟨k, hk, rfl, HB, HZ, HD, HC, HF⟩ := hrel
    by_cases hp : k < kids.length
    · rcases (unhide HK).kept (unhide HB).toBelow (unhide HB).size with hq | ⟨b, off, rfl, hbl, hbn, hcs⟩
      · rw [hq] at hp; simp at hp
      obtain ⟨c0, c1, d0, d1, hr⟩ := hcs k hp
      have hs1 := wtGn_step kids k hp
      have hs3 := wtGn_le kids (k + 1)
      obtain ⟨e, he⟩ : ∃ e, kids[k] = e := ⟨_, rfl⟩
      rw [he] at hr hs1
      have hew : e.wt ≤ 1048576 := by have := unhide HT; omega
      have HR := hide hr
      have HE := hide he
      clear hcs hr hs1 hs3 he
      go_wp2_with fail
      refine (unhide HH _ e wr (unhide HR) hew).mono ?_
      rintro r w2 ⟨x0, x1, rfl, hE2, hb2⟩
      obtain ⟨xs, xa, xl, xc, rfl, rfl⟩ := IsGn.form  hE2
      have hz := unhide HZ
      have hcc : ∀ j, j < kids.length * 2 → ∃ v, w2.cell? ⟨w.heap.size, j, none⟩ = some v := fun j hj => by
        obtain ⟨v, hv⟩ := unhide HC j hj
        exact ⟨v, (hb2.cell (p := ⟨w.heap.size, j, none⟩) hz).trans hv⟩
      have hff : ∀ j, w2.frozen? ⟨w.heap.size, j, none⟩ = false := fun j => (hb2.frozen (p := ⟨w.heap.size, j, none⟩) hz).trans (unhide HF j)
      obtain ⟨y0, q0⟩ := hcc (k * 2) (by omega)
      have f0 := hff (k * 2)
      obtain ⟨y1, q1⟩ := hcc (k * 2 + 1) (by omega)
      have f1 := hff (k * 2 + 1)
      have HC2 := hide hcc
      have HF2 := hide hff
      have HE2 := hide hE2
      have HB2 := hide hb2
      clear hcc hff hE2 hb2 hz d0 d1
      have HN : Hid (CopiedGn (put2 w2 w.heap.size (k * 2) (.string xs) (.slice xa xl xc)) w.heap.size  (k + 1) kids) := hide (CopiedGn.nextZ  hp (unhide HD) (unhide HZ) (unhide HB2) (unhide HC2) (by rw [unhide HE]; exact unhide HE2))
      have HB3 := hide (((unhide HB).trans ((unhide HB2).mono (unhide HB).size)).trans (put2_belowZ w2 w.heap.size (k * 2) (.string xs) (.slice xa xl xc) (Nat.le_refl _)))
      have HZ3 : Hid (w.heap.size < (put2 w2 w.heap.size (k * 2) (.string xs) (.slice xa xl xc)).heap.size) := hide (by rw [put2_size]; have := (unhide HB2).size; have := unhide HZ; omega)
      have HF3 : Hid (∀ j, (put2 w2 w.heap.size (k * 2) (.string xs) (.slice xa xl xc)).frozen? ⟨w.heap.size, j, none⟩ = false) := hide (fun j => by rw [put2_frozen]; exact unhide HF2 j)
      have HC3 : Hid (∀ j, j < kids.length * 2 → ∃ v, (put2 w2 w.heap.size (k * 2) (.string xs) (.slice xa xl xc)).cell? ⟨w.heap.size, j, none⟩ = some v) := hide (fun j hj => by
        by_cases ho : j < k * 2 ∨ k * 2 + 2 ≤ j
        · rw [put2_other _ _ _ _ _ _ ho]; exact unhide HC2 j hj
        · obtain ⟨a0, a1⟩ := put2_at w2 w.heap.size (k * 2) (.string xs) (.slice xa xl xc) (fun i h1 h2 => unhide HC2 i (by omega))
          have hj5 : j = k * 2 ∨ j = k * 2 + 1 := by omega
          rcases hj5 with rfl | rfl
          · exact ⟨_, a0⟩
          · exact ⟨_, a1⟩)
      clear HD HC HF HB HZ HE2 HR
      go_wp2
      go_roundw
      case rel => exact ⟨k + 1, by omega, by go_num, HB3, HZ3, HN, HC3, HF3⟩
      case measure => simp [intOf] <;> omega
    · go_wp2
      go_ret
      refine ⟨_, _, rfl, .inr ⟨w.heap.size, 0, rfl, Nat.le_refl _, unhide HZ, fun j hj => ?_⟩, unhide HB⟩
      obtain ⟨c0, c1, d0, d1, hr⟩ := unhide HD j hj (by omega)
      refine ⟨c0, c1, ?_, ?_, IsGn.same  (fun b h1 h2 => rfl) (by omega) (Nat.le_refl _) _ _ hr⟩
      · rw [Nat.zero_add]; exact d0
      · rw [Nat.zero_add]; exact d1
set_option maxHeartbeats 2000000 in
theorem toGraphNode_anyZ (lo : Nat) : ToGnZ lo := by
  intro v f w hF ht
  obtain ⟨md, sigs⟩ := f
  obtain ⟨aa, ca, rfl, hz, ha⟩ := hF
  dsimp only at hz ha ⊢
  have ht' : md.size + (sigs.length + wtWds sigs) ≤ 1048576 := ht
  have HA := hide (fun (w' : World) (hb : Bf w.heap.size w w') => toWds_anyZ lo aa ca sigs w' (ha.kept hb.toBelow hb.size) (by omega))
  have HZ := hide hz
  clear ha ht ht' hz
  go_enter Try.func49, Try.ntmps49
  go_wp2_with fail
  refine (unhide HA _ ((((Bf.refl _ w).alloc (Nat.le_refl _) _).alloc (by simp) _).alloc (by simp; omega) _)).mono ?_
  rintro r w2 ⟨a', cap', rfl, hcap, hk2, hb2⟩
  have hB2 : Bf w.heap.size w w2 := (((((Bf.refl _ w).alloc (Nat.le_refl _) _).alloc (by simp) _).alloc (by simp; omega) _)).trans (hb2.mono (by simp; omega))
  rw [alloc_size, alloc_size, alloc_size] at hk2
  have n2 : Blk w2 (w.heap.size + 1) [Value.string ⟨#[]⟩, Value.slice none 0 0] := by
    have := ((Blk.new (w.alloc (.cells #[Value.string md, Value.slice aa sigs.length ca] 69)) [Value.string ⟨#[]⟩, Value.slice none 0 0] 30).old (.cells #[.string md, .slice none 0 0] 30) (by simp only [alloc_size]; omega)).below hb2.toBelow (by simp only [alloc_size]; omega)
    rw [alloc_size] at this
    exact this
  have n3 : Blk w2 (w.heap.size + 1 + 1) [.string md, .slice none 0 0] := by
    have := (Blk.new ((w.alloc (.cells #[Value.string md, Value.slice aa sigs.length ca] 69)).alloc (.cells #[Value.string ⟨#[]⟩, Value.slice none 0 0] 30)) [.string md, .slice none 0 0] 30).below hb2.toBelow (by simp only [alloc_size]; omega)
    rw [alloc_size, alloc_size] at this
    exact this
  have hS2 : w.heap.size + 3 ≤ w2.heap.size := by have := hb2.size; rw [alloc_size, alloc_size, alloc_size] at this; omega
  have o0 : w2.cell? ⟨w.heap.size + 1 + 1, 0, none⟩ = some (.string md) := n3.1 0
  have o1 : w2.cell? ⟨w.heap.size + 1 + 1, 1, none⟩ = some (.slice none 0 0) := n3.1 1
  have g1 : w2.frozen? ⟨w.heap.size + 1 + 1, 1, none⟩ = false := n3.2 1
  have q0 : w2.cell? ⟨w.heap.size + 1, 0, none⟩ = some (Value.string ⟨#[]⟩) := n2.1 0
  have q1 : w2.cell? ⟨w.heap.size + 1, 1, none⟩ = some (Value.slice none 0 0) := n2.1 1
  have f0 : w2.frozen? ⟨w.heap.size + 1, 0, none⟩ = false := n2.2 0
  have f1 : w2.frozen? ⟨w.heap.size + 1, 1, none⟩ = false := n2.2 1
  have HN := hide ((((n2.other (w.heap.size + 1 + 1) 1 (.slice a' sigs.length cap') (by omega)).set 0 (.string md) (by simp)).set 1 (.slice a' sigs.length cap') (by simp)))
  have HFB := hide (((((Bf.refl w.heap.size w2).setCell (p := ⟨w.heap.size + 1 + 1, 1, none⟩) (by simp; omega) (.slice a' sigs.length cap')).setCell (p := ⟨w.heap.size + 1, 0, none⟩) (by simp) (.string md)).setCell (p := ⟨w.heap.size + 1, 1, none⟩) (by simp) (.slice a' sigs.length cap')))
  have HB2 := hide hB2
  have HK2 := hide hk2
  have HS2 := hide hS2
  clear n2 n3 hb2 hB2 hk2 hS2
  go_wp2
  obtain ⟨F, hF⟩ : ∃ F, F = (((w2.setCell ⟨w.heap.size + 1 + 1, 1, none⟩ (.slice a' sigs.length cap')).setCell ⟨w.heap.size + 1, 0, none⟩ (.string md)).setCell ⟨w.heap.size + 1, 1, none⟩ (.slice a' sigs.length cap')) := ⟨_, rfl⟩
  have hFO : Same (w.heap.size + 3) w2.heap.size w2 F := fun b h1 h2 => by rw [hF, Below.heap_setCell _ _ _ _ (by simp; omega), Below.heap_setCell _ _ _ _ (by simp; omega), Below.heap_setCell _ _ _ _ (by simp; omega)]
  have hFS : F.heap.size = w2.heap.size := by rw [hF]; simp [World.setCell]
  rw [← hF] at HN HFB ⊢
  have e := (unhide HN).1
  have e0 : F.cell? ⟨w.heap.size + 1, 0, none⟩ = some (Value.string md) := e 0
  have e1 : F.cell? ⟨w.heap.size + 1, 1, none⟩ = some (Value.slice a' sigs.length cap') := e 1
  refine bodyPost_ret (v := .agg #[Value.string md, Value.slice a' sigs.length cap']) (by simp [results, Try.results49, go_sem, e0, e1]) rfl ?_
  refine ⟨_, _, rfl, ⟨a', cap', rfl, unhide HZ, ?_⟩, (unhide HB2).trans (unhide HFB)⟩
  exact (unhide HK2).same hFO (by omega) (by omega)
end Go.Proofs.Ytgdeehldpmfpgaa
