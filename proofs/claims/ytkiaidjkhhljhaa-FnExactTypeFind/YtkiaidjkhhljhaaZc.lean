/- The walks of toTreeArg and toTreeArgS once more: the copy may be written. Conditions: the row can be read. -/
import Derived.Test.YtkiaidjkhhljhaaZa
namespace Go.Proofs.Ytkiaidjkhhljhaa
open Go.RowKit Go.PlainAid

theorem put2_belowZ (w : World) (B o : Nat) (x0 x1 : Value) {n : Nat} (h : n ≤ B) : Bf n w (put2 w B o x0 x1) :=
  (((Bf.refl n w).setCell (p := ⟨B, o, none⟩) h _).setCell (p := ⟨B, o + 1, none⟩) h _)
/-- The contract of the element's copying. -/
def ToArgZ (lo : Nat)  : Prop := ∀ (v : Value) (e : TA) (w : World), (IsArg w lo w.heap.size) v e → e.wt ≤ 1048576 →
  Calls Try.prog 69 #[v] w fun r w' => ∃ c0 c1 : Value, r = .returned (.agg #[c0, c1]) ∧ (IsArg w' w.heap.size w'.heap.size) (.agg #[c0, c1]) e ∧ Bf w.heap.size w w'
theorem CopiedArg.nextZ {w w2 : World} {B : Nat}  {k : Nat} {kids : List TA} {x0 x1 : Value} (hp : k < kids.length) (hD : CopiedArg w B  k kids) (hz : B < w.heap.size) (hb2 : Bf w.heap.size w w2)
    (hc : ∀ j, j < kids.length * 2 → ∃ v, w2.cell? ⟨B, j, none⟩ = some v) (hE : (IsArg w2 w.heap.size w2.heap.size) (.agg #[x0, x1]) (kids[k]'hp)) : CopiedArg (put2 w2 B (k * 2) x0 x1) B  (k + 1) kids := by
  intro j hj hjk
  have hs2 : Same (B + 1) w2.heap.size w2 (put2 w2 B (k * 2) x0 x1) := fun b h1 h2 => put2_heap _ _ _ _ _ b (by omega)
  have hsz := put2_size w2 B (k * 2) x0 x1
  by_cases e : j = k
  · subst e
    obtain ⟨a0, a1⟩ := put2_at w2 B (j * 2) x0 x1 (fun i h1 h2 => hc i (by omega))
    exact ⟨x0, x1, a0, a1, IsArg.same  (fun b h1 h2 => hs2 b (by omega) h2) (by omega) (by omega) _ _ hE⟩
  · obtain ⟨c0, c1, d0, d1, hr⟩ := hD j hj (by omega)
    have hcc : ∀ i, i < k * 2 → (put2 w2 B (k * 2) x0 x1).cell? ⟨B, i, none⟩ = w.cell? ⟨B, i, none⟩ := fun i hi =>
      (put2_other w2 B (k * 2) x0 x1 i (by omega)).trans (hb2.cell (p := ⟨B, i, none⟩) hz)
    refine ⟨c0, c1, (hcc _ (by omega)).trans d0, (hcc _ (by omega)).trans d1, IsArg.same  (fun b h1 h2 => ?_) (Nat.le_refl _) (by have := hb2.size; omega) _ _ hr⟩
    exact (hs2 b h1 (by have := hb2.size; omega)).trans (hb2.block b h2)

set_option maxHeartbeats 1000000 in
theorem toTreeArgS_ofZ (lo : Nat)  (H : ToArgZ lo ) (a : Option Addr) (cap : Nat) (kids : List TA) (w : World) (hk : IsArgs (IsArg w lo w.heap.size) w lo w.heap.size a kids) (ht : kids.length + wtArgs kids ≤ 1048576) :
    Calls Try.prog 64 #[.slice a kids.length cap] w fun r w' => ∃ (a' : Option Addr) (cap' : Nat), r = .returned (.slice a' kids.length cap') ∧ IsArgs (IsArg w' w.heap.size w'.heap.size) w' w.heap.size w'.heap.size a' kids ∧ Bf w.heap.size w w' := by
  obtain ⟨M, hM, hmk⟩ := makeArgs kids.length (by omega)
  have HK := hide hk
  have HH := hide H
  have HT := hide ht
  have HM := hide hM
  have hl : kids.length ≤ 1048576 := by omega
  clear hk H ht hM
  go_enter Try.func64, Try.ntmps64
  go_wp2
  clear hmk
  go_loopw [4] (fun i wr => ∃ k : Nat, k ≤ kids.length ∧ i = .int .i64 k ∧ Hid (Bf w.heap.size w wr) ∧ Hid (w.heap.size < wr.heap.size) ∧ Hid (CopiedArg wr w.heap.size  k kids) ∧ Hid (∀ j, j < kids.length * 2 → ∃ v, wr.cell? ⟨w.heap.size, j, none⟩ = some v) ∧ Hid (∀ j, wr.frozen? ⟨w.heap.size, j, none⟩ = false)) (fun i _ => kids.length - (intOf i).toNat)
  case atStart =>
    refine ⟨0, Nat.zero_le _, rfl, hide ((Bf.refl _ w).alloc (Nat.le_refl _) _), hide (by simp), hide (fun j _ hj => absurd hj (Nat.not_lt_zero _)), hide (fun j hj => ?_), hide (fun j => by simp)⟩
    rw [World.cell?_alloc_new]
    have : j < M.size := by rw [unhide HM]; exact hj
    exact ⟨_, Array.getElem?_eq_getElem this⟩
  case round =>
    obtain ⟨k, hk, rfl, HB, HZ, HD, HC, HF⟩ := hrel
    by_cases hp : k < kids.length
    · rcases (unhide HK).kept (unhide HB).toBelow (unhide HB).size with hq | ⟨b, off, rfl, hbl, hbn, hcs⟩
      · rw [hq] at hp; simp at hp
      obtain ⟨c0, c1, d0, d1, hr⟩ := hcs k hp
      have hs1 := wtArg_step kids k hp
      have hs3 := wtArg_le kids (k + 1)
      obtain ⟨e, he⟩ : ∃ e, kids[k] = e := ⟨_, rfl⟩
      rw [he] at hr hs1
      have hew : e.wt ≤ 1048576 := by have := unhide HT; omega
      have HR := hide hr
      have HE := hide he
      clear hcs hr hs1 hs3 he
      go_wp2_with fail
      refine (unhide HH _ e wr (unhide HR) hew).mono ?_
      rintro r w2 ⟨x0, x1, rfl, hE2, hb2⟩
      obtain ⟨xs, xt, rfl, rfl⟩ := IsArg.form  hE2
      have hz := unhide HZ
      have hcc : ∀ j, j < kids.length * 2 → ∃ v, w2.cell? ⟨w.heap.size, j, none⟩ = some v := fun j hj => by
        obtain ⟨v, hv⟩ := unhide HC j hj
        exact ⟨v, (hb2.cell (p := ⟨w.heap.size, j, none⟩) hz).trans hv⟩
      have hff : ∀ j, w2.frozen? ⟨w.heap.size, j, none⟩ = false := fun j => (hb2.frozen (p := ⟨w.heap.size, j, none⟩) hz).trans (unhide HF j)
      obtain ⟨y0, q0⟩ := hcc (k * 2) (by omega)
      have f0 := hff (k * 2)
      obtain ⟨y1, q1⟩ := hcc (k * 2 + 1) (by omega)
      have f1 := hff (k * 2 + 1)
      have HC2 := hide hcc
      have HF2 := hide hff
      have HE2 := hide hE2
      have HB2 := hide hb2
      clear hcc hff hE2 hb2 hz d0 d1
      have HN : Hid (CopiedArg (put2 w2 w.heap.size (k * 2) (.string xs) (.int .i64 xt)) w.heap.size  (k + 1) kids) := hide (CopiedArg.nextZ  hp (unhide HD) (unhide HZ) (unhide HB2) (unhide HC2) (by rw [unhide HE]; exact unhide HE2))
      have HB3 := hide (((unhide HB).trans ((unhide HB2).mono (unhide HB).size)).trans (put2_belowZ w2 w.heap.size (k * 2) (.string xs) (.int .i64 xt) (Nat.le_refl _)))
      have HZ3 : Hid (w.heap.size < (put2 w2 w.heap.size (k * 2) (.string xs) (.int .i64 xt)).heap.size) := hide (by rw [put2_size]; have := (unhide HB2).size; have := unhide HZ; omega)
      have HF3 : Hid (∀ j, (put2 w2 w.heap.size (k * 2) (.string xs) (.int .i64 xt)).frozen? ⟨w.heap.size, j, none⟩ = false) := hide (fun j => by rw [put2_frozen]; exact unhide HF2 j)
      have HC3 : Hid (∀ j, j < kids.length * 2 → ∃ v, (put2 w2 w.heap.size (k * 2) (.string xs) (.int .i64 xt)).cell? ⟨w.heap.size, j, none⟩ = some v) := hide (fun j hj => by
        by_cases ho : j < k * 2 ∨ k * 2 + 2 ≤ j
        · rw [put2_other _ _ _ _ _ _ ho]; exact unhide HC2 j hj
        · obtain ⟨a0, a1⟩ := put2_at w2 w.heap.size (k * 2) (.string xs) (.int .i64 xt) (fun i h1 h2 => unhide HC2 i (by omega))
          have hj5 : j = k * 2 ∨ j = k * 2 + 1 := by omega
          rcases hj5 with rfl | rfl
          · exact ⟨_, a0⟩
          · exact ⟨_, a1⟩)
      clear HD HC HF HB HZ HE2 HR
      go_wp2
      go_roundw
      case rel => exact ⟨k + 1, by omega, by go_num, HB3, HZ3, HN, HC3, HF3⟩
      case measure => simp [intOf] <;> omega
    · go_wp2
      go_ret
      refine ⟨_, _, rfl, .inr ⟨w.heap.size, 0, rfl, Nat.le_refl _, unhide HZ, fun j hj => ?_⟩, unhide HB⟩
      obtain ⟨c0, c1, d0, d1, hr⟩ := unhide HD j hj (by omega)
      refine ⟨c0, c1, ?_, ?_, IsArg.same  (fun b h1 h2 => rfl) (by omega) (Nat.le_refl _) _ _ hr⟩
      · rw [Nat.zero_add]; exact d0
      · rw [Nat.zero_add]; exact d1
set_option maxHeartbeats 400000 in
theorem toTreeArg_anyZ (lo : Nat) : ToArgZ lo := by
  intro v e w hE _
  obtain ⟨nm, ty⟩ := e
  obtain ⟨rfl, hs⟩ := hE
  have HS := hide hs
  clear hs
  show Calls Try.prog 69 #[.agg #[.string nm, .int .i64 ty]] w fun r w' => ∃ c0 c1 : Value, r = .returned (.agg #[c0, c1]) ∧ IsArg w' w.heap.size w'.heap.size (.agg #[c0, c1]) ⟨nm, ty⟩ ∧ Bf w.heap.size w w'
  go_enter Try.func69, Try.ntmps69
  go_wp2
  refine bodyPost_ret (v := .agg #[.string nm, .int .i64 ty]) (by simp [results, Try.results69, go_sem]) rfl ?_
  exact ⟨_, _, rfl, ⟨rfl, unhide HS⟩, (((Bf.refl _ w).alloc (Nat.le_refl _) _).alloc (by simp) _).alloc (by simp; omega) _⟩
end Go.Proofs.Ytkiaidjkhhljhaa
