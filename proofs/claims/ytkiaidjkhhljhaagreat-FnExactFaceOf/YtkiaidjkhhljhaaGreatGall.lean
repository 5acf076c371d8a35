/- Lists of signatures as answers: each list in a block of its own; the walks of markFaceSigS and heldFaceSigS on them. Conditions: the lists lie apart. The walk of sig: a line as a signature again, in new memory. Conditions: at most four parameters, none of them nothing. Plain: the functions of a right module; lines that are put where they belong ascend. No conditions. The walk of impl.FaceOf: the face of a module, in new memory, each list in a block of its own. Conditions: the module can be read, and weighs at most 2^20. The walk of spec.l3Put: a line is put where it belongs. Conditions: the list is one that a call made; it can be read. The walk of spec.FaceOf: the face of a module. Conditions: the module can be read, and weighs at most 2^20. What the law on FaceOf keeps in memory; marks of its answer. No conditions but those that each names. The walk of the law on FaceOf: it returns true and turns nothing that was there. Conditions: the module can be read. -/
import Derived.Test.YtkiaidjkhhljhaaGreatMall
import Derived.Deep.RegionWith
import Derived.Test.YtkiaidjkhhljhaaGreatFjk
import Derived.Test.YtkiaidjkhhljhaaGreatNc
import Derived.Test.YtkiaidjkhhljhaaGreatVe
import Derived.Test.YtkiaidjkhhljhaaGreatFi
import Derived.Deep.AppendLies
import Derived.Maps.OwnSet
import Derived.Laws.OwnMore
import Derived.Test.YtkiaidjkhhljhaaGreatNd
import Derived.Test.YtkiaidjkhhljhaaGreatZall
import Derived.Deep.CutRange
namespace Go.Proofs.YtkiaidjkhhljhaaGreat
open Go.RowKit Go.PlainAid

/-- A row of signatures in the block b, its numbers in blocks of their own. -/
structure LL (w : World) (b : Nat) (vs : Nat → Value) (bs : Nat → Nat) (l : List TS) : Prop where
  free : ∀ j, w.frozen? ⟨b, j, none⟩ = false
  c0 : ∀ j (hj : j < l.length), w.cell? ⟨b, j * 3, none⟩ = some (.string l[j].name)
  c1 : ∀ j, j < l.length → w.cell? ⟨b, j * 3 + 1, none⟩ = some (vs j)
  c2 : ∀ j (hj : j < l.length), w.cell? ⟨b, j * 3 + 2, none⟩ = some (.int .i64 l[j].type)
  own : ∀ j (hj : j < l.length), OwnI w (bs j) (bs j + 1) (vs j) l[j].args
/-- The blocks lie apart. -/
structure Apart (lo n b : Nat) (bs : Nat → Nat) (m : Nat) : Prop where
  b0 : lo ≤ b ∧ b < n
  bj : ∀ j, j < m → lo ≤ bs j ∧ bs j < n ∧ bs j ≠ b
  ne : ∀ i j, i < m → j < m → i ≠ j → bs i ≠ bs j
theorem LL.move {w w' : World} {lo n b m : Nat} {vs : Nat → Value} {bs : Nat → Nat} {l : List TS} (h : LL w b vs bs l) (ha : Apart lo n b bs m) (hm : l.length ≤ m) (hb : ∀ x, lo ≤ x → x < n → w'.heap[x]? = w.heap[x]?) : LL w' b vs bs l := by
  have hc : ∀ i, w'.cell? ⟨b, i, none⟩ = w.cell? ⟨b, i, none⟩ := fun i => World.cell?_of_block (w := w) (hb b ha.b0.1 ha.b0.2)
  have hf : ∀ i, w'.frozen? ⟨b, i, none⟩ = w.frozen? ⟨b, i, none⟩ := fun i => World.frozen?_of_block (w := w) (hb b ha.b0.1 ha.b0.2)
  refine ⟨fun j => (hf j).trans (h.free j), fun j hj => (hc _).trans (h.c0 j hj), fun j hj => (hc _).trans (h.c1 j hj), fun j hj => (hc _).trans (h.c2 j hj), fun j hj => ?_⟩
  have hx := ha.bj j (by omega)
  refine (h.own j hj).same (fun x h1 h2 => ?_) (Nat.le_refl _) (Nat.le_refl _)
  have hk := hb x (by omega) (by omega)
  exact ⟨fun i => World.cell?_of_block (w := w) (a := ⟨x, i, none⟩) hk, fun i => World.frozen?_of_block (w := w) (a := ⟨x, i, none⟩) hk⟩
theorem LL.kept {w w' : World} {lo n b m : Nat} {vs : Nat → Value} {bs : Nat → Nat} {l : List TS} (h : LL w b vs bs l) (ha : Apart lo n b bs m) (hm : l.length ≤ m) (hb : Below n w w') : LL w' b vs bs l := h.move ha hm (fun x _ hx => hb.block x hx)
theorem LL.sigs {w : World} {lo n b m : Nat} {vs : Nat → Value} {bs : Nat → Nat} {l : List TS} (h : LL w b vs bs l) (ha : Apart lo n b bs m) (hm : l.length ≤ m) (hn : n ≤ w.heap.size) (hs : ∀ s ∈ l, s.name.size ≤ maxLen ∧ s.args.length ≤ maxLen) : IsSigs (IsSig w lo w.heap.size) w lo w.heap.size (some ⟨b, 0, none⟩) l := by
  refine .inr ⟨b, 0, rfl, ha.b0.1, by have := ha.b0.2; omega, fun j hj => ?_⟩
  rw [Nat.zero_add]
  refine ⟨_, _, _, h.c0 j hj, h.c1 j hj, h.c2 j hj, ?_⟩
  obtain ⟨a, cap, hv, hI⟩ := (h.own j hj).ints
  have hx := ha.bj j (by omega)
  exact ⟨a, cap, by rw [hv], hs _ (List.getElem_mem hj), hI.same (fun _ _ _ => rfl) hx.1 (by omega)⟩
/-- How many marks a signature takes. -/
def mG (s : TS) : Nat := 2 + s.args.length
/-- The signature at a place, marked. -/
def mkAt (k0 : Nat) (l : List TS) (i : Nat) : TS := ⟨mt (k0 + sm mG (l.take i)), marksI (k0 + sm mG (l.take i) + 1) ((l.getD i ⟨⟨#[]⟩, [], 0⟩).args.length), ((k0 + sm mG (l.take i) + 1 + (l.getD i ⟨⟨#[]⟩, [], 0⟩).args.length : Nat) : Int)⟩
theorem LL.step {w w' : World} {lo n b m : Nat} {vs : Nat → Value} {bs : Nat → Nat} {l : List TS} {j : Nat} {x : TS} (h : LL w b vs bs l) (ha : Apart lo n b bs m) (hm : l.length ≤ m) (hj : j < l.length)
    (hf : ∀ i, w'.frozen? ⟨b, i, none⟩ = w.frozen? ⟨b, i, none⟩) (h0 : w'.cell? ⟨b, j * 3, none⟩ = some (.string x.name)) (h1 : w'.cell? ⟨b, j * 3 + 1, none⟩ = w.cell? ⟨b, j * 3 + 1, none⟩) (h2 : w'.cell? ⟨b, j * 3 + 2, none⟩ = some (.int .i64 x.type))
    (hc : ∀ i, (i < j * 3 ∨ j * 3 + 3 ≤ i) → w'.cell? ⟨b, i, none⟩ = w.cell? ⟨b, i, none⟩) (hb : ∀ y, y ≠ b → y ≠ bs j → y < n → w'.heap[y]? = w.heap[y]?) (ho : OwnI w' (bs j) (bs j + 1) (vs j) x.args) : LL w' b vs bs (l.set j x) := by
  refine ⟨fun i => (hf i).trans (h.free i), fun i hi => ?_, fun i hi => ?_, fun i hi => ?_, fun i hi => ?_⟩
  all_goals rw [List.length_set] at hi
  · rw [List.getElem_set]
    split
    · next e => subst e; exact h0
    · next e => exact (hc _ (by omega)).trans (h.c0 i hi)
  · by_cases e : j = i
    · subst e; exact h1.trans (h.c1 j hi)
    · exact (hc _ (by omega)).trans (h.c1 i hi)
  · rw [List.getElem_set]
    split
    · next e => subst e; exact h2
    · next e => exact (hc _ (by omega)).trans (h.c2 i hi)
  · by_cases e : j = i
    · subst e; simpa using ho
    · rw [List.getElem_set_ne e]
      have hx := ha.bj i (by omega)
      refine (h.own i hi).same (fun y g1 g2 => ?_) (Nat.le_refl _) (Nat.le_refl _)
      have hy : y = bs i := by omega
      subst hy
      have hk := hb (bs i) hx.2.2 (ha.ne i j (by omega) (by omega) (fun h => e h.symm)) hx.2.1
      exact ⟨fun q => World.cell?_of_block (w := w) (a := ⟨bs i, q, none⟩) hk, fun q => World.frozen?_of_block (w := w) (a := ⟨bs i, q, none⟩) hk⟩

set_option maxRecDepth 100000 in
set_option maxHeartbeats 4000000 in
theorem markL_any (lo n b cap : Nat) (vs : Nat → Value) (bs : Nat → Nat) (l : List TS) (k0 : Nat) (w : World) (h : LL w b vs bs l) (ha : Apart lo n b bs l.length) (hn : n ≤ w.heap.size) (h1 : 1 ≤ k0) (hk : k0 + sm mG l ≤ 100000000000) (hl : l.length ≤ 1000) (hlo : lo ≤ n) :
    Calls Tryz.prog 19 #[.slice (some ⟨b, 0, none⟩) l.length cap, .int .i64 (k0 : Int)] w fun e w' => ∃ l' : List TS, e = .returned (.int .i64 ((k0 + sm mG l : Nat) : Int)) ∧ LL w' b vs bs l' ∧ l'.length = l.length ∧ (∀ i (hi : i < l'.length), l'[i] = mkAt k0 l i) ∧ Below lo w w' ∧ ∀ x, n ≤ x → x < w.heap.size → w'.heap[x]? = w.heap[x]? := by
  have HH := hide h
  have HA := hide ha
  have HN := hide hn
  have HLO := hide hlo
  clear h ha hn hlo
  go_enter Tryz.func19, Tryz.ntmps19
  go_wp2
  go_loopw [1, 5] (fun kk i wr => ∃ (j : Nat) (l' : List TS), j ≤ l.length ∧ i = .int .i64 j ∧ kk = .int .i64 ((k0 + sm mG (l.take j) : Nat) : Int) ∧ Hid (LL wr b vs bs l') ∧ Hid (l'.length = l.length) ∧ Hid (∀ i (hi : i < l'.length), i < j → l'[i] = mkAt k0 l i) ∧ Hid (∀ i (hi : i < l'.length) (hi2 : i < l.length), j ≤ i → l'[i] = l[i]) ∧ Hid (Below lo w wr) ∧ Hid (∀ x, n ≤ x → x < w.heap.size → wr.heap[x]? = w.heap[x]?)) (fun _ i _ => l.length - (intOf i).toNat)
  case atStart => exact ⟨0, l, Nat.zero_le _, rfl, by simp [sm], HH, hide rfl, hide (fun i _ hi => absurd hi (Nat.not_lt_zero _)), hide (fun _ _ _ _ => rfl), hide (Below.refl _ _), hide (fun _ _ _ => rfl)⟩
  case round =>
    obtain ⟨j, l', hj, rfl, rfl, HL, HLEN, HD, HR, HB, HC⟩ := hrel
    have HNR := hide (Nat.le_trans (unhide HN) (unhide HB).size)
    by_cases hp : j < l.length
    · have hp' : j < l'.length := by rw [unhide HLEN]; exact hp
      have hs1 := sm_step mG l j hp
      have hs3 := sm_le mG l (j + 1)
      have hlj := unhide HR j hp' hp (Nat.le_refl _)
      have hmk : mkAt k0 l j = ⟨mt (k0 + sm mG (l.take j)), marksI (k0 + sm mG (l.take j) + 1) (l[j].args.length), ((k0 + sm mG (l.take j) + 1 + l[j].args.length : Nat) : Int)⟩ := by
        unfold mkAt
        rw [show l.getD j ⟨⟨#[]⟩, [], 0⟩ = l[j] by simp [List.getD, hp]]
      rw [show mG l[j] = 2 + l[j].args.length from rfl] at hs1
      have d0 := (unhide HL).c0 j hp'
      have d1 := (unhide HL).c1 j hp'
      have d2 := (unhide HL).c2 j hp'
      have ho := (unhide HL).own j hp'
      rw [hlj] at d0 d2 ho
      obtain ⟨x, hx⟩ : ∃ x, l[j] = x := ⟨_, rfl⟩
      rw [hx] at d0 d2 ho hs1 hmk
      obtain ⟨xn, xargs, xt⟩ := x
      dsimp only at d0 d2 ho hs1 hmk
      obtain ⟨q, hq⟩ : ∃ q, k0 + sm mG (l.take j) = q := ⟨_, rfl⟩
      rw [hq] at hmk ⊢
      have hqa : q + (2 + xargs.length) ≤ 100000000000 := by omega
      have hq1 : 1 ≤ q := by omega
      have hqn : k0 + sm mG (l.take (j + 1)) = q + 1 + xargs.length + 1 := by omega
      have HMK := hide hmk
      have HQN := hide hqn
      have HHQ := hide hq
      have hbj := (unhide HA).bj j hp
      have hbb := (unhide HA).b0
      have D1 := hide d1
      have D2 := hide d2
      have D0 := hide d0
      have HO := hide ho
      have HBJ := hide hbj
      have HBB := hide hbb
      clear hlj hx hs1 hs3 hq hmk hqn d0 d1 d2 ho hbj hbb
      go_wp2_with fail
      refine (markText_any q (by omega) (by omega) _).mono ?_
      rintro r w1 ⟨rfl, hb1⟩
      have K1 : Hid (∀ x, x < n → w1.heap[x]? = wr.heap[x]?) := hide (fun x hx => hb1.block x (Nat.lt_of_lt_of_le hx (unhide HNR)))
      have HB1 := hide hb1
      have c0 : w1.cell? ⟨b, j * 3, none⟩ = some (.string xn) := (World.cell?_of_block (w := wr) (unhide K1 b (unhide HBB).2)).trans (unhide D0)
      have c1 : w1.cell? ⟨b, j * 3 + 1, none⟩ = some (vs j) := (World.cell?_of_block (w := wr) (unhide K1 b (unhide HBB).2)).trans (unhide D1)
      have f0 : w1.frozen? ⟨b, j * 3, none⟩ = false := (World.frozen?_of_block (w := wr) (unhide K1 b (unhide HBB).2)).trans ((unhide HL).free _)
      obtain ⟨va, vc, hvj, -⟩ := unhide HO
      rw [hvj] at c1
      have HVJ := hide hvj
      clear hvj hb1
      have C0 := hide c0
      have k1n : (w1.setCell ⟨b, j * 3, none⟩ (.string (mt q))).cell? ⟨b, j * 3 + 1, none⟩ = some (.slice va xargs.length vc) := (cell_other _ _ _ _ _ (by omega)).trans c1
      have HO1 : Hid (OwnI (w1.setCell ⟨b, j * 3, none⟩ (.string (mt q))) (bs j) (bs j + 1) (.slice va xargs.length vc) xargs) := hide (by
        have := (unhide HO).same (w' := w1.setCell ⟨b, j * 3, none⟩ (.string (mt q))) (lo' := bs j) (n' := bs j + 1) (fun y g1 g2 => by
          have hy : y = bs j := by omega
          subst hy
          have hk : (w1.setCell ⟨b, j * 3, none⟩ (.string (mt q))).heap[bs j]? = wr.heap[bs j]? := (Below.heap_setCell _ _ _ _ (by exact (unhide HBJ).2.2)).trans (unhide K1 _ (unhide HBJ).2.1)
          exact ⟨fun i => World.cell?_of_block (w := wr) (a := ⟨bs j, i, none⟩) hk, fun i => World.frozen?_of_block (w := wr) (a := ⟨bs j, i, none⟩) hk⟩) (Nat.le_refl _) (Nat.le_refl _)
        rw [unhide HVJ] at this
        exact this)
      go_wp2_with fail
      refine (markIntS_at (bs j) (bs j + 1) _ xargs (q + 1) _ (unhide HO1) (by omega) (by omega)).mono ?_
      rintro r w2 ⟨rfl, ho2, hb2, hs2, hc2⟩
      have K2 : Hid (∀ x, x ≠ bs j → w2.heap[x]? = (w1.setCell ⟨b, j * 3, none⟩ (.string (mt q))).heap[x]?) := hide (fun x hx => by
        rcases Nat.lt_or_ge x (bs j) with g | g
        · exact hb2.block x g
        · exact hc2 x (by omega))
      have KB := unhide K2 b (fun e => (unhide HBJ).2.2 e.symm)
      have c2 : w2.cell? ⟨b, j * 3 + 2, none⟩ = some (.int .i64 xt) := (World.cell?_of_block (w := w1.setCell ⟨b, j * 3, none⟩ (.string (mt q))) KB).trans ((cell_other _ _ _ _ _ (by omega)).trans ((World.cell?_of_block (w := wr) (unhide K1 b (unhide HBB).2)).trans (unhide D2)))
      have f2 : w2.frozen? ⟨b, j * 3 + 2, none⟩ = false := (World.frozen?_of_block (w := w1.setCell ⟨b, j * 3, none⟩ (.string (mt q))) KB).trans ((World.frozen?_setCell ..).trans ((World.frozen?_of_block (w := wr) (unhide K1 b (unhide HBB).2)).trans ((unhide HL).free _)))
      have HKB := hide KB
      have HO2 := hide ho2
      have HS2 := hide hs2
      have C2 := hide c2
      have HOS : Hid (w2.os = w1.os ∧ w2.tape = w1.tape ∧ w2.output = w1.output) := hide ⟨hb2.os, hb2.tape, hb2.output⟩
      clear ho2 hb2 hs2 hc2 KB c0 c1 f0 k1n
      go_wp2
      go_roundw
      case rel =>
        have hb1 := unhide HB1
        have hos := unhide HOS
        have hs2 : w2.heap.size = w1.heap.size := by have := unhide HS2; simpa [World.setCell] using this
        have hblk : ∀ y, y ≠ b → y ≠ bs j → (w2.setCell ⟨b, j * 3 + 2, none⟩ (.int .i64 ((q : Int) + 1 + xargs.length))).heap[y]? = w1.heap[y]? := fun y h1 h2 => (Below.heap_setCell _ _ _ _ (by exact h1)).trans ((unhide K2 y h2).trans (Below.heap_setCell _ _ _ _ (by exact h1)))
        have hx3 : ((q : Int) + 1 + xargs.length) = ((q + 1 + xargs.length : Nat) : Int) := by omega
        refine ⟨j + 1, l'.set j (mkAt k0 l j), by omega, by go_num, by rw [unhide HQN]; go_num, hide ?_, hide (by rw [List.length_set]; exact unhide HLEN), hide (fun i hi hij => ?_), hide (fun i hi hi2 hij => ?_), hide ?_, hide (fun x h1 h2 => ?_)⟩
        · rw [unhide HMK]
          have hL := unhide HL
          have hlm : l'.length ≤ l.length := by rw [unhide HLEN]; exact Nat.le_refl _
          have kb : ∀ i, w2.cell? ⟨b, i, none⟩ = (w1.setCell ⟨b, j * 3, none⟩ (.string (mt q))).cell? ⟨b, i, none⟩ := fun i => World.cell?_of_block (w := w1.setCell ⟨b, j * 3, none⟩ (.string (mt q))) (unhide HKB)
          have k1 : ∀ i, w1.cell? ⟨b, i, none⟩ = wr.cell? ⟨b, i, none⟩ := fun i => World.cell?_of_block (w := wr) (unhide K1 b (unhide HBB).2)
          refine hL.step (unhide HA) hlm (by rw [unhide HLEN]; exact hp) (fun i => ?_) ?_ ?_ ?_ (fun i hi => ?_) (fun y h1 h2 h3 => ?_) ?_
          · exact (World.frozen?_setCell ..).trans ((World.frozen?_of_block (w := w1.setCell ⟨b, j * 3, none⟩ (.string (mt q))) (unhide HKB)).trans ((World.frozen?_setCell ..).trans (World.frozen?_of_block (w := wr) (unhide K1 b (unhide HBB).2))))
          · rw [cell_other _ _ _ _ _ (by omega), kb]
            exact cell_same _ _ _ _ (by rw [unhide C0]; rfl)
          · rw [cell_other _ _ _ _ _ (by omega), kb, cell_other _ _ _ _ _ (by omega)]
            exact k1 _
          · rw [hx3]
            exact cell_same _ _ _ _ (by rw [unhide C2]; rfl)
          · rw [cell_other _ _ _ _ _ (by omega), kb, cell_other _ _ _ _ _ (by omega)]
            exact k1 _
          · exact (hblk y h1 h2).trans (unhide K1 y h3)
          · have ho := unhide HO2
            rw [← unhide HVJ] at ho
            refine ho.same (fun y g1 g2 => ?_) (Nat.le_refl _) (Nat.le_refl _)
            have hy : y ≠ b := by have := (unhide HBJ).2.2; omega
            have hk : (w2.setCell ⟨b, j * 3 + 2, none⟩ (.int .i64 ((q : Int) + 1 + xargs.length))).heap[y]? = w2.heap[y]? := Below.heap_setCell _ _ _ _ (by exact hy)
            exact ⟨fun i => World.cell?_of_block (w := w2) (a := ⟨y, i, none⟩) hk, fun i => World.frozen?_of_block (w := w2) (a := ⟨y, i, none⟩) hk⟩
        · rw [List.getElem_set]
          split
          · next e => rw [e]
          · next e => exact unhide HD i (by rw [List.length_set] at hi; exact hi) (by omega)
        · rw [List.getElem_set_ne (by omega)]
          exact unhide HR i (by rw [List.length_set] at hi; exact hi) hi2 (by omega)
        · refine (unhide HB).trans ⟨?_, ?_, ?_, ?_, fun y hy => ?_⟩
          · exact hos.1.trans hb1.os
          · exact hos.2.1.trans hb1.tape
          · exact hos.2.2.trans hb1.output
          · show wr.heap.size ≤ (w2.setCell _ _).heap.size
            have := hb1.size
            simp [World.setCell]
            omega
          · have h3 := (unhide HBJ).1
            have h4 := (unhide HBB).1
            exact (hblk y (by omega) (by omega)).trans (hb1.block y (by have := unhide HLO; have := unhide HNR; omega))
        · have h3 := (unhide HBJ).2.1
          have h4 := (unhide HBB).2
          exact (hblk x (by omega) (by omega)).trans ((hb1.block x (Nat.lt_of_lt_of_le h2 (unhide HB).size)).trans (unhide HC x h1 h2))
      case measure => simp [intOf]; omega
    · have hek : j = l.length := by omega
      subst hek
      have HT : Hid (l.take l.length = l) := hide (List.take_of_length_le (Nat.le_refl _))
      have HFIN : Hid (∀ i (hi : i < l'.length), l'[i] = mkAt k0 l i) := hide (fun i hi => unhide HD i hi (by have := unhide HLEN; omega))
      rw [unhide HT]
      go_wp2
      go_ret
      exact ⟨l', rfl, unhide HL, unhide HLEN, unhide HFIN, unhide HB, unhide HC⟩

set_option maxRecDepth 100000 in
set_option maxHeartbeats 4000000 in
theorem heldL_any (lo n b cap : Nat) (vs : Nat → Value) (bs : Nat → Nat) (l l' : List TS) (k0 : Nat) (w : World) (h : LL w b vs bs l') (hlen : l'.length = l.length) (hfin : ∀ i (hi : i < l'.length), l'[i] = mkAt k0 l i) (ha : Apart lo n b bs l.length) (hn : n ≤ w.heap.size) (h1 : 1 ≤ k0) (hk : k0 + sm mG l ≤ 100000000000) (hl : l.length ≤ 1000) :
    Calls Tryz.prog 20 #[.slice (some ⟨b, 0, none⟩) l.length cap, .int .i64 (k0 : Int)] w fun e w' => e = .returned (.int .i64 ((k0 + sm mG l : Nat) : Int)) ∧ Below w.heap.size w w' := by
  have HH := hide (fun (W : World) (hb : Below w.heap.size w W) => h.kept ha (by omega) (hb.mono hn))
  have HF := hide hfin
  have HLEN := hide hlen
  clear h hfin ha hlen
  go_enter Tryz.func20, Tryz.ntmps20
  go_wp2
  go_loopw [1, 5] (fun kk i wr => ∃ j : Nat, j ≤ l.length ∧ i = .int .i64 j ∧ kk = .int .i64 ((k0 + sm mG (l.take j) : Nat) : Int) ∧ Hid (Below w.heap.size w wr)) (fun _ i _ => l.length - (intOf i).toNat)
  case atStart => exact ⟨0, Nat.zero_le _, rfl, by simp [sm], hide (Below.refl _ _)⟩
  case round =>
    obtain ⟨j, hj, rfl, rfl, HB⟩ := hrel
    by_cases hp : j < l.length
    · have hp' : j < l'.length := by rw [unhide HLEN]; exact hp
      have hs1 := sm_step mG l j hp
      have hs3 := sm_le mG l (j + 1)
      rw [show mG l[j] = 2 + l[j].args.length from rfl] at hs1
      have hmk : mkAt k0 l j = ⟨mt (k0 + sm mG (l.take j)), marksI (k0 + sm mG (l.take j) + 1) (l[j].args.length), ((k0 + sm mG (l.take j) + 1 + l[j].args.length : Nat) : Int)⟩ := by
        unfold mkAt
        rw [show l.getD j ⟨⟨#[]⟩, [], 0⟩ = l[j] by simp [List.getD, hp]]
      have hlj := (unhide HF j hp').trans hmk
      obtain ⟨q, hq⟩ : ∃ q, k0 + sm mG (l.take j) = q := ⟨_, rfl⟩
      rw [hq] at hlj ⊢
      obtain ⟨M, hM⟩ : ∃ M, l[j].args.length = M := ⟨_, rfl⟩
      rw [hM] at hlj hs1
      have HC : Hid (∀ W : World, Below w.heap.size w W → W.cell? ⟨b, j * 3, none⟩ = some (.string (mt q)) ∧ W.cell? ⟨b, j * 3 + 1, none⟩ = some (vs j) ∧ W.cell? ⟨b, j * 3 + 2, none⟩ = some (.int .i64 ((q + 1 + M : Nat) : Int)) ∧ OwnI W (bs j) (bs j + 1) (vs j) (marksI (q + 1) M)) := hide (fun W hb => by
        have hL := unhide HH W hb
        have e0 := hL.c0 j hp'
        have e2 := hL.c2 j hp'
        have eo := hL.own j hp'
        rw [hlj] at e0 e2 eo
        exact ⟨e0, hL.c1 j hp', e2, eo⟩)
      have hqa : q + (2 + M) ≤ 100000000000 := by omega
      have hq1 : 1 ≤ q := by omega
      have HQN : Hid (k0 + sm mG (l.take (j + 1)) = q + 1 + M + 1) := hide (by omega)
      obtain ⟨va, vc, hvj, -⟩ := (unhide HC w (Below.refl _ _)).2.2.2
      rw [marksI_len] at hvj
      have HVJ := hide hvj
      clear hlj hmk hs1 hs3 hq hM hvj
      have c0 := (unhide HC wr (unhide HB)).1
      have hne0 : ((mt q).toList != (mt q).toList) = false := by simp
      go_wp2
      go_region_with (go_at_call 54; refine (markText_any q (by omega) (by omega) _).mono ?_; rintro r w1 ⟨rfl, hb1⟩; have k1 : Below w.heap.size w w1 := (unhide HB).trans ((Below.refl _ wr).drew.trans hb1 |>.mono (unhide HB).size); have c0' := (unhide HC w1 k1).1)
      all_goals (
        have c1 := (unhide HC w1 k1).2.1
        rw [unhide HVJ] at c1
        have c2 := (unhide HC w1 k1).2.2.1
        have ho := (unhide HC w1 k1).2.2.2
        rw [unhide HVJ] at ho
        have HO := hide ho
        have K1 := hide k1
        clear ho k1 hb1 c0 c0'
        go_wp2_with fail
        refine (heldIntS_any (bs j) (bs j + 1) _ (q + 1) M w1 (unhide HO) (by omega) (by omega)).mono ?_
        rintro r w2 ⟨rfl, rfl⟩
        have hnn : ¬ ((q + 1 + M : Nat) : Int) < 0 := by omega
        have hne2 : (((q + 1 + M : Nat) : Int) != ((q + 1 + M : Nat) : Int)) = false := by simp
        go_wp2
        go_roundw
        case rel => exact ⟨j + 1, by omega, by go_num, by rw [unhide HQN]; go_num, K1⟩
        case measure => simp [intOf]; omega)
    · have hek : j = l.length := by omega
      subst hek
      have HT : Hid (l.take l.length = l) := hide (List.take_of_length_le (Nat.le_refl _))
      rw [unhide HT]
      go_wp2
      go_ret
      exact ⟨rfl, unhide HB⟩
end Go.Proofs.YtkiaidjkhhljhaaGreat

namespace Go.Proofs.YtkiaidjkhhljhaaGreat
open Go.RowKit Go.PlainAid

def fl4 (a b c d : Int) (k : Nat) : List Int := (([a, b, c, d].take k).filter (fun x => x != 0))
theorem fl4_step (a b c d : Int) (k : Nat) (hk : k < 4) : fl4 a b c d (k + 1) = fl4 a b c d k ++ (if ([a, b, c, d].getD k 0) = 0 then [] else [[a, b, c, d].getD k 0]) := by
  unfold fl4
  have hk' : k < [a, b, c, d].length := by simpa using hk
  rw [List.take_succ_eq_append_getElem hk', List.filter_append]
  congr 1
  have : [a, b, c, d].getD k 0 = [a, b, c, d][k] := by
    rw [List.getD, List.getElem?_eq_getElem hk']; rfl
  rw [this]
  by_cases h : [a, b, c, d][k] = 0 <;> simp [h]
theorem fl4_len (a b c d : Int) (k : Nat) : (fl4 a b c d k).length ≤ 4 := by
  unfold fl4
  refine Nat.le_trans (List.length_filter_le _ _) ?_
  rw [List.length_take]
  simp
  omega
theorem fl4_args {s : TS} (h4 : s.args.length ≤ 4) (hz : ∀ x ∈ s.args, x ≠ 0) : fl4 (ar s 0) (ar s 1) (ar s 2) (ar s 3) 4 = s.args := by
  obtain ⟨nm, args, ty⟩ := s
  dsimp only at h4 hz
  rcases args with _ | ⟨x0, _ | ⟨x1, _ | ⟨x2, _ | ⟨x3, _ | ⟨x4, r⟩⟩⟩⟩⟩
  · simp [fl4, ar]
  · have h0 := hz x0 (by simp)
    simp [fl4, ar, h0]
  · have h0 := hz x0 (by simp); have h1 := hz x1 (by simp)
    simp [fl4, ar, h0, h1]
  · have h0 := hz x0 (by simp); have h1 := hz x1 (by simp); have h2 := hz x2 (by simp)
    simp [fl4, ar, h0, h1, h2]
  · have h0 := hz x0 (by simp); have h1 := hz x1 (by simp); have h2 := hz x2 (by simp); have h3 := hz x3 (by simp)
    simp [fl4, ar, h0, h1, h2, h3]
  · simp at h4

theorem run_idx4_0 (x0 x1 x2 x3 : Int) (W : World) : (Instr.index 59 (.agg #[.int .i64 x0, .int .i64 x1, .int .i64 x2, .int .i64 x3]) (.int .i64 0)).run Tryz.prog W = .ok (.int .i64 x0) W := by
  simp [Instr.index, run_underlying Tryz.underlying59, asIntOf, go_sem]
theorem run_idx4_1 (x0 x1 x2 x3 : Int) (W : World) : (Instr.index 59 (.agg #[.int .i64 x0, .int .i64 x1, .int .i64 x2, .int .i64 x3]) (.int .i64 1)).run Tryz.prog W = .ok (.int .i64 x1) W := by
  simp [Instr.index, run_underlying Tryz.underlying59, asIntOf, go_sem]
theorem run_idx4_2 (x0 x1 x2 x3 : Int) (W : World) : (Instr.index 59 (.agg #[.int .i64 x0, .int .i64 x1, .int .i64 x2, .int .i64 x3]) (.int .i64 2)).run Tryz.prog W = .ok (.int .i64 x2) W := by
  simp [Instr.index, run_underlying Tryz.underlying59, asIntOf, go_sem]
theorem run_idx4_3 (x0 x1 x2 x3 : Int) (W : World) : (Instr.index 59 (.agg #[.int .i64 x0, .int .i64 x1, .int .i64 x2, .int .i64 x3]) (.int .i64 3)).run Tryz.prog W = .ok (.int .i64 x3) W := by
  simp [Instr.index, run_underlying Tryz.underlying59, asIntOf, go_sem]

set_option maxRecDepth 100000 in
set_option maxHeartbeats 8000000 in
theorem sigM_any (nm : ByteArray) (x0 x1 x2 x3 ty : Int) (Z4 : List Int) (hZ4 : fl4 x0 x1 x2 x3 4 = Z4) (w : World) :
    Calls Tryz.prog 27 #[.agg #[.string nm, .int .i64 x0, .int .i64 x1, .int .i64 x2, .int .i64 x3, .int .i64 ty]] w fun r w' => ∃ v : Value, r = .returned (.agg #[.string nm, v, .int .i64 ty]) ∧ OwnI w' w.heap.size w'.heap.size v Z4 ∧ Below w.heap.size w w' := by
  have HZ4 := hide hZ4
  clear hZ4
  obtain ⟨i0, hi, hz0, hz1, hz2⟩ := info_parts intinfo
  have n0 : Blk (((w.alloc (.cells [Value.string nm, Value.int .i64 x0, Value.int .i64 x1, Value.int .i64 x2, Value.int .i64 x3, Value.int .i64 ty].toArray 61)).alloc (.cells [Value.string ⟨#[]⟩, Value.slice none 0 0, Value.int .i64 0].toArray 65)).alloc (.cells [Value.string nm, Value.slice none 0 0, Value.int .i64 ty].toArray 65)) w.heap.size [Value.string nm, Value.int .i64 x0, Value.int .i64 x1, Value.int .i64 x2, Value.int .i64 x3, Value.int .i64 ty] := ((Blk.new w [Value.string nm, Value.int .i64 x0, Value.int .i64 x1, Value.int .i64 x2, Value.int .i64 x3, Value.int .i64 ty] 61).old _ (by simp)).old _ (by simp only [alloc_size]; omega)
  have n1 : Blk (((w.alloc (.cells [Value.string nm, Value.int .i64 x0, Value.int .i64 x1, Value.int .i64 x2, Value.int .i64 x3, Value.int .i64 ty].toArray 61)).alloc (.cells [Value.string ⟨#[]⟩, Value.slice none 0 0, Value.int .i64 0].toArray 65)).alloc (.cells [Value.string nm, Value.slice none 0 0, Value.int .i64 ty].toArray 65)) (w.heap.size + 1) [Value.string ⟨#[]⟩, Value.slice none 0 0, Value.int .i64 0] := by
    have := (Blk.new (w.alloc (.cells [Value.string nm, Value.int .i64 x0, Value.int .i64 x1, Value.int .i64 x2, Value.int .i64 x3, Value.int .i64 ty].toArray 61)) [Value.string ⟨#[]⟩, Value.slice none 0 0, Value.int .i64 0] 65).old (.cells [Value.string nm, Value.slice none 0 0, Value.int .i64 ty].toArray 65) (by simp only [alloc_size]; omega)
    rw [alloc_size] at this
    exact this
  have n2 : Blk (((w.alloc (.cells [Value.string nm, Value.int .i64 x0, Value.int .i64 x1, Value.int .i64 x2, Value.int .i64 x3, Value.int .i64 ty].toArray 61)).alloc (.cells [Value.string ⟨#[]⟩, Value.slice none 0 0, Value.int .i64 0].toArray 65)).alloc (.cells [Value.string nm, Value.slice none 0 0, Value.int .i64 ty].toArray 65)) (w.heap.size + 1 + 1) [Value.string nm, Value.slice none 0 0, Value.int .i64 ty] := by
    have := Blk.new ((w.alloc (.cells [Value.string nm, Value.int .i64 x0, Value.int .i64 x1, Value.int .i64 x2, Value.int .i64 x3, Value.int .i64 ty].toArray 61)).alloc (.cells [Value.string ⟨#[]⟩, Value.slice none 0 0, Value.int .i64 0].toArray 65)) [Value.string nm, Value.slice none 0 0, Value.int .i64 ty] 65
    rw [alloc_size, alloc_size] at this
    exact this
  have hW : Below w.heap.size w (((w.alloc (.cells [Value.string nm, Value.int .i64 x0, Value.int .i64 x1, Value.int .i64 x2, Value.int .i64 x3, Value.int .i64 ty].toArray 61)).alloc (.cells [Value.string ⟨#[]⟩, Value.slice none 0 0, Value.int .i64 0].toArray 65)).alloc (.cells [Value.string nm, Value.slice none 0 0, Value.int .i64 ty].toArray 65)) := (((Below.refl _ w).alloc (Nat.le_refl _) _).alloc (by simp) _).alloc (by simp; omega) _
  go_enter Tryz.func27, Tryz.ntmps27
  go_wp2
  obtain ⟨W, hWW⟩ : ∃ W, W = (((w.alloc (.cells [Value.string nm, Value.int .i64 x0, Value.int .i64 x1, Value.int .i64 x2, Value.int .i64 x3, Value.int .i64 ty].toArray 61)).alloc (.cells [Value.string ⟨#[]⟩, Value.slice none 0 0, Value.int .i64 0].toArray 65)).alloc (.cells [Value.string nm, Value.slice none 0 0, Value.int .i64 ty].toArray 65)) := ⟨_, rfl⟩
  have hWs : W.heap.size = w.heap.size + 1 + 1 + 1 := by rw [hWW]; simp
  rw [← hWW] at n0 n1 n2 hW ⊢
  clear hWW
  have N1 := hide n1
  have N2 := hide n2
  have HW := hide hW
  have HWS := hide hWs
  clear n0 n1 n2 hW hWs
  go_loopw [5, 13] (fun _ i wr => ∃ (k : Nat) (v : Value), k ≤ 4 ∧ i = .int .i64 k ∧ Hid (wr.ownsRow W.heap.size 3 1 v (fl4 x0 x1 x2 x3 k).length ((fl4 x0 x1 x2 x3 k).map (Value.int .i64))) ∧ Hid (Blk wr (w.heap.size + 1 + 1) [.string nm, v, .int .i64 ty]) ∧ Hid (Below (w.heap.size + 1 + 1) W wr)) (fun _ i _ => 4 - (intOf i).toNat)
  case atStart => exact ⟨0, .slice none 0 0, Nat.zero_le _, rfl, hide (World.ownsRow_nil _ _ _ _), N2, hide (Below.refl _ _)⟩
  case round =>
    obtain ⟨k, v, hk, rfl, HROW, HBLK, HB⟩ := hrel
    obtain ⟨vs, cp, rfl⟩ := own_sliceN (unhide HROW)
    have HWR := hide ((unhide HW).trans ((unhide HB).mono (by omega)))
    have HSZ : Hid (w.heap.size + 1 + 1 + 1 ≤ wr.heap.size) := hide (by have := unhide HWS; have := (unhide HB).size; omega)
    by_cases hp : k < 4
    · have hk4 : k = 0 ∨ k = 1 ∨ k = 2 ∨ k = 3 := by omega
      clear hp hk
      rcases hk4 with rfl | rfl | rfl | rfl
      · have hix := fun W => run_idx4_0 x0 x1 x2 x3 W
        by_cases hz : x0 = 0
        · have hx : (x0 != 0) = false := by rw [hz]; rfl
          have HFL : Hid (fl4 x0 x1 x2 x3 1 = fl4 x0 x1 x2 x3 0) := hide (by rw [fl4_step x0 x1 x2 x3 0 (by omega)]; simp [hz])
          clear hz
          go_wp2
          go_roundw
          case rel => exact ⟨1, _, by omega, by go_num, hide (by rw [unhide HFL]; exact unhide HROW), HBLK, HB⟩
          case measure => simp [intOf]
        · have hx : (x0 != 0) = true := by simpa using hz
          have HFL : Hid (fl4 x0 x1 x2 x3 1 = fl4 x0 x1 x2 x3 0 ++ [x0]) := hide (by rw [fl4_step x0 x1 x2 x3 0 (by omega)]; simp [hz])
          have hlen := fl4_len x0 x1 x2 x3 0
          obtain ⟨M, hM⟩ : ∃ M, (fl4 x0 x1 x2 x3 0).length = M := ⟨_, rfl⟩
          rw [hM] at hlen
          have e1 := (unhide HBLK).cellAt (i := 1) rfl
          rw [hM] at e1
          have HMM := hide hM
          clear hz hM
          go_wp2_with (at_builtin; refine wpList_append_own _ rfl _ _ 63 rfl W.heap.size 3 i0 (.int .i64 0) 1 8 Tryz.underlying63 hi hz0 hz1 hz2 rfl (by decide) (.slice vs M cp) M ((fl4 x0 x1 x2 x3 0).map (Value.int .i64)) rfl (by have := (unhide HROW).alloc (.cells #[.int .i64 x0] 3); rw [unhide HMM] at this; exact this) ⟨wr.heap.size, 0, none⟩ 1 1 [.int .i64 x0] rfl rfl (one_newN wr (.int .i64 x0) 3) (by simp [Value.oneCell']) (by unfold maxLen; omega) (by omega) (by have := (unhide HB).size; simp; omega) ?_; intro v2 w3 hown2 hgrow2 _; obtain ⟨vs2, cp2, rfl⟩ := own_sliceN hown2; have hb3 : Below W.heap.size (wr.alloc (.cells #[.int .i64 x0] 3)) w3 := ((Below.refl _ _).grown hgrow2 (by have := (unhide HB).size; simp; omega) (fun q hq => (((unhide HROW).lt q (by rw [unhide HMM]; exact hq))).1)); have n3 : Blk w3 (w.heap.size + 1 + 1) [.string nm, .slice vs M cp, .int .i64 ty] := (by have := ((unhide HBLK).old (.cells #[.int .i64 x0] 3) (by have := unhide HSZ; omega)).below hb3 (by have := unhide HWS; omega); rw [unhide HMM] at this; exact this); have g1 := n3.cellAt (i := 1) rfl; have f1 := n3.2 1; have NN3 := hide n3; have HB3 := hide hb3; have HO3 := hide hown2; clear n3 hb3 hown2 hgrow2 e1)
          go_roundw
          case rel =>
            refine ⟨1, .slice vs2 (M + 1) cp2, by omega, by go_num, hide ?_, hide ((unhide NN3).set 1 (.slice vs2 (M + 1) cp2) (by simp)), hide ?_⟩
            · rw [unhide HFL, List.map_append, List.length_append, unhide HMM]
              exact own_setN (unhide HO3) (by have := unhide HWS; omega)
            · refine Below.setCell ?_ (p := ⟨w.heap.size + 1 + 1, 1, none⟩) (Nat.le_refl _) _
              exact (unhide HB).trans (((Below.refl _ wr).alloc (by have := unhide HSZ; omega) _).trans ((unhide HB3).mono (by have := unhide HWS; omega)))
          case measure => simp [intOf]
      · have hix := fun W => run_idx4_1 x0 x1 x2 x3 W
        by_cases hz : x1 = 0
        · have hx : (x1 != 0) = false := by rw [hz]; rfl
          have HFL : Hid (fl4 x0 x1 x2 x3 2 = fl4 x0 x1 x2 x3 1) := hide (by rw [fl4_step x0 x1 x2 x3 1 (by omega)]; simp [hz])
          clear hz
          go_wp2
          go_roundw
          case rel => exact ⟨2, _, by omega, by go_num, hide (by rw [unhide HFL]; exact unhide HROW), HBLK, HB⟩
          case measure => simp [intOf]
        · have hx : (x1 != 0) = true := by simpa using hz
          have HFL : Hid (fl4 x0 x1 x2 x3 2 = fl4 x0 x1 x2 x3 1 ++ [x1]) := hide (by rw [fl4_step x0 x1 x2 x3 1 (by omega)]; simp [hz])
          have hlen := fl4_len x0 x1 x2 x3 1
          obtain ⟨M, hM⟩ : ∃ M, (fl4 x0 x1 x2 x3 1).length = M := ⟨_, rfl⟩
          rw [hM] at hlen
          have e1 := (unhide HBLK).cellAt (i := 1) rfl
          rw [hM] at e1
          have HMM := hide hM
          clear hz hM
          go_wp2_with (at_builtin; refine wpList_append_own _ rfl _ _ 63 rfl W.heap.size 3 i0 (.int .i64 0) 1 8 Tryz.underlying63 hi hz0 hz1 hz2 rfl (by decide) (.slice vs M cp) M ((fl4 x0 x1 x2 x3 1).map (Value.int .i64)) rfl (by have := (unhide HROW).alloc (.cells #[.int .i64 x1] 3); rw [unhide HMM] at this; exact this) ⟨wr.heap.size, 0, none⟩ 1 1 [.int .i64 x1] rfl rfl (one_newN wr (.int .i64 x1) 3) (by simp [Value.oneCell']) (by unfold maxLen; omega) (by omega) (by have := (unhide HB).size; simp; omega) ?_; intro v2 w3 hown2 hgrow2 _; obtain ⟨vs2, cp2, rfl⟩ := own_sliceN hown2; have hb3 : Below W.heap.size (wr.alloc (.cells #[.int .i64 x1] 3)) w3 := ((Below.refl _ _).grown hgrow2 (by have := (unhide HB).size; simp; omega) (fun q hq => (((unhide HROW).lt q (by rw [unhide HMM]; exact hq))).1)); have n3 : Blk w3 (w.heap.size + 1 + 1) [.string nm, .slice vs M cp, .int .i64 ty] := (by have := ((unhide HBLK).old (.cells #[.int .i64 x1] 3) (by have := unhide HSZ; omega)).below hb3 (by have := unhide HWS; omega); rw [unhide HMM] at this; exact this); have g1 := n3.cellAt (i := 1) rfl; have f1 := n3.2 1; have NN3 := hide n3; have HB3 := hide hb3; have HO3 := hide hown2; clear n3 hb3 hown2 hgrow2 e1)
          go_roundw
          case rel =>
            refine ⟨2, .slice vs2 (M + 1) cp2, by omega, by go_num, hide ?_, hide ((unhide NN3).set 1 (.slice vs2 (M + 1) cp2) (by simp)), hide ?_⟩
            · rw [unhide HFL, List.map_append, List.length_append, unhide HMM]
              exact own_setN (unhide HO3) (by have := unhide HWS; omega)
            · refine Below.setCell ?_ (p := ⟨w.heap.size + 1 + 1, 1, none⟩) (Nat.le_refl _) _
              exact (unhide HB).trans (((Below.refl _ wr).alloc (by have := unhide HSZ; omega) _).trans ((unhide HB3).mono (by have := unhide HWS; omega)))
          case measure => simp [intOf]
      · have hix := fun W => run_idx4_2 x0 x1 x2 x3 W
        by_cases hz : x2 = 0
        · have hx : (x2 != 0) = false := by rw [hz]; rfl
          have HFL : Hid (fl4 x0 x1 x2 x3 3 = fl4 x0 x1 x2 x3 2) := hide (by rw [fl4_step x0 x1 x2 x3 2 (by omega)]; simp [hz])
          clear hz
          go_wp2
          go_roundw
          case rel => exact ⟨3, _, by omega, by go_num, hide (by rw [unhide HFL]; exact unhide HROW), HBLK, HB⟩
          case measure => simp [intOf]
        · have hx : (x2 != 0) = true := by simpa using hz
          have HFL : Hid (fl4 x0 x1 x2 x3 3 = fl4 x0 x1 x2 x3 2 ++ [x2]) := hide (by rw [fl4_step x0 x1 x2 x3 2 (by omega)]; simp [hz])
          have hlen := fl4_len x0 x1 x2 x3 2
          obtain ⟨M, hM⟩ : ∃ M, (fl4 x0 x1 x2 x3 2).length = M := ⟨_, rfl⟩
          rw [hM] at hlen
          have e1 := (unhide HBLK).cellAt (i := 1) rfl
          rw [hM] at e1
          have HMM := hide hM
          clear hz hM
          go_wp2_with (at_builtin; refine wpList_append_own _ rfl _ _ 63 rfl W.heap.size 3 i0 (.int .i64 0) 1 8 Tryz.underlying63 hi hz0 hz1 hz2 rfl (by decide) (.slice vs M cp) M ((fl4 x0 x1 x2 x3 2).map (Value.int .i64)) rfl (by have := (unhide HROW).alloc (.cells #[.int .i64 x2] 3); rw [unhide HMM] at this; exact this) ⟨wr.heap.size, 0, none⟩ 1 1 [.int .i64 x2] rfl rfl (one_newN wr (.int .i64 x2) 3) (by simp [Value.oneCell']) (by unfold maxLen; omega) (by omega) (by have := (unhide HB).size; simp; omega) ?_; intro v2 w3 hown2 hgrow2 _; obtain ⟨vs2, cp2, rfl⟩ := own_sliceN hown2; have hb3 : Below W.heap.size (wr.alloc (.cells #[.int .i64 x2] 3)) w3 := ((Below.refl _ _).grown hgrow2 (by have := (unhide HB).size; simp; omega) (fun q hq => (((unhide HROW).lt q (by rw [unhide HMM]; exact hq))).1)); have n3 : Blk w3 (w.heap.size + 1 + 1) [.string nm, .slice vs M cp, .int .i64 ty] := (by have := ((unhide HBLK).old (.cells #[.int .i64 x2] 3) (by have := unhide HSZ; omega)).below hb3 (by have := unhide HWS; omega); rw [unhide HMM] at this; exact this); have g1 := n3.cellAt (i := 1) rfl; have f1 := n3.2 1; have NN3 := hide n3; have HB3 := hide hb3; have HO3 := hide hown2; clear n3 hb3 hown2 hgrow2 e1)
          go_roundw
          case rel =>
            refine ⟨3, .slice vs2 (M + 1) cp2, by omega, by go_num, hide ?_, hide ((unhide NN3).set 1 (.slice vs2 (M + 1) cp2) (by simp)), hide ?_⟩
            · rw [unhide HFL, List.map_append, List.length_append, unhide HMM]
              exact own_setN (unhide HO3) (by have := unhide HWS; omega)
            · refine Below.setCell ?_ (p := ⟨w.heap.size + 1 + 1, 1, none⟩) (Nat.le_refl _) _
              exact (unhide HB).trans (((Below.refl _ wr).alloc (by have := unhide HSZ; omega) _).trans ((unhide HB3).mono (by have := unhide HWS; omega)))
          case measure => simp [intOf]
      · have hix := fun W => run_idx4_3 x0 x1 x2 x3 W
        by_cases hz : x3 = 0
        · have hx : (x3 != 0) = false := by rw [hz]; rfl
          have HFL : Hid (fl4 x0 x1 x2 x3 4 = fl4 x0 x1 x2 x3 3) := hide (by rw [fl4_step x0 x1 x2 x3 3 (by omega)]; simp [hz])
          clear hz
          go_wp2
          go_roundw
          case rel => exact ⟨4, _, by omega, by go_num, hide (by rw [unhide HFL]; exact unhide HROW), HBLK, HB⟩
          case measure => simp [intOf]
        · have hx : (x3 != 0) = true := by simpa using hz
          have HFL : Hid (fl4 x0 x1 x2 x3 4 = fl4 x0 x1 x2 x3 3 ++ [x3]) := hide (by rw [fl4_step x0 x1 x2 x3 3 (by omega)]; simp [hz])
          have hlen := fl4_len x0 x1 x2 x3 3
          obtain ⟨M, hM⟩ : ∃ M, (fl4 x0 x1 x2 x3 3).length = M := ⟨_, rfl⟩
          rw [hM] at hlen
          have e1 := (unhide HBLK).cellAt (i := 1) rfl
          rw [hM] at e1
          have HMM := hide hM
          clear hz hM
          go_wp2_with (at_builtin; refine wpList_append_own _ rfl _ _ 63 rfl W.heap.size 3 i0 (.int .i64 0) 1 8 Tryz.underlying63 hi hz0 hz1 hz2 rfl (by decide) (.slice vs M cp) M ((fl4 x0 x1 x2 x3 3).map (Value.int .i64)) rfl (by have := (unhide HROW).alloc (.cells #[.int .i64 x3] 3); rw [unhide HMM] at this; exact this) ⟨wr.heap.size, 0, none⟩ 1 1 [.int .i64 x3] rfl rfl (one_newN wr (.int .i64 x3) 3) (by simp [Value.oneCell']) (by unfold maxLen; omega) (by omega) (by have := (unhide HB).size; simp; omega) ?_; intro v2 w3 hown2 hgrow2 _; obtain ⟨vs2, cp2, rfl⟩ := own_sliceN hown2; have hb3 : Below W.heap.size (wr.alloc (.cells #[.int .i64 x3] 3)) w3 := ((Below.refl _ _).grown hgrow2 (by have := (unhide HB).size; simp; omega) (fun q hq => (((unhide HROW).lt q (by rw [unhide HMM]; exact hq))).1)); have n3 : Blk w3 (w.heap.size + 1 + 1) [.string nm, .slice vs M cp, .int .i64 ty] := (by have := ((unhide HBLK).old (.cells #[.int .i64 x3] 3) (by have := unhide HSZ; omega)).below hb3 (by have := unhide HWS; omega); rw [unhide HMM] at this; exact this); have g1 := n3.cellAt (i := 1) rfl; have f1 := n3.2 1; have NN3 := hide n3; have HB3 := hide hb3; have HO3 := hide hown2; clear n3 hb3 hown2 hgrow2 e1)
          go_roundw
          case rel =>
            refine ⟨4, .slice vs2 (M + 1) cp2, by omega, by go_num, hide ?_, hide ((unhide NN3).set 1 (.slice vs2 (M + 1) cp2) (by simp)), hide ?_⟩
            · rw [unhide HFL, List.map_append, List.length_append, unhide HMM]
              exact own_setN (unhide HO3) (by have := unhide HWS; omega)
            · refine Below.setCell ?_ (p := ⟨w.heap.size + 1 + 1, 1, none⟩) (Nat.le_refl _) _
              exact (unhide HB).trans (((Below.refl _ wr).alloc (by have := unhide HSZ; omega) _).trans ((unhide HB3).mono (by have := unhide HWS; omega)))
          case measure => simp [intOf]
    · have hek : k = 4 := by omega
      subst hek
      have HOI := hide (own_of_row (unhide HROW))
      have hlen := fl4_len x0 x1 x2 x3 4
      rw [unhide HZ4] at HOI hlen HBLK
      have e0 := (unhide HBLK).cellAt (i := 0) rfl
      have e1 := (unhide HBLK).cellAt (i := 1) rfl
      have e2 := (unhide HBLK).cellAt (i := 2) rfl
      have n1 := (unhide N1).below (unhide HB) (by omega)
      have q0 := n1.cellAt (i := 0) rfl
      have q1 := n1.cellAt (i := 1) rfl
      have q2 := n1.cellAt (i := 2) rfl
      have f0 := n1.2 0
      have f1 := n1.2 1
      have f2 := n1.2 2
      have N1R := hide n1
      clear n1
      go_wp2
      obtain ⟨F, hF⟩ : ∃ F, F = (((wr.setCell ⟨w.heap.size + 1, 0, none⟩ (.string nm)).setCell ⟨w.heap.size + 1, 1, none⟩ (.slice vs Z4.length cp)).setCell ⟨w.heap.size + 1, 2, none⟩ (.int .i64 ty)) := ⟨_, rfl⟩
      have hn := (((unhide N1R).set 0 (.string nm) (by simp)).set 1 (.slice vs Z4.length cp) (by simp)).set 2 (.int .i64 ty) (by simp)
      have hFB := (((Below.refl w.heap.size wr).setCell (p := ⟨w.heap.size + 1, 0, none⟩) (by simp) (.string nm)).setCell (p := ⟨w.heap.size + 1, 1, none⟩) (by simp) (.slice vs Z4.length cp)).setCell (p := ⟨w.heap.size + 1, 2, none⟩) (by simp) (.int .i64 ty)
      have hFO : ∀ b, w.heap.size + 2 ≤ b → F.heap[b]? = wr.heap[b]? := fun b hb => by rw [hF, Below.heap_setCell _ _ _ _ (by simp; omega), Below.heap_setCell _ _ _ _ (by simp; omega), Below.heap_setCell _ _ _ _ (by simp; omega)]
      have hFS : F.heap.size = wr.heap.size := by rw [hF]; simp [World.setCell]
      rw [← hF] at hn hFB ⊢
      have g0 := hn.cellAt (i := 0) rfl
      have g1 := hn.cellAt (i := 1) rfl
      have g2 := hn.cellAt (i := 2) rfl
      refine bodyPost_ret (v := .agg #[Value.string nm, Value.slice vs Z4.length cp, Value.int .i64 ty]) (by simp [results, Tryz.results27, go_sem, g0, g1, g2]) rfl ?_
      refine ⟨_, rfl, (unhide HOI).same (fun b hb hbn => ⟨fun j => World.cell?_of_block (w := wr) (a := ⟨b, j, none⟩) (hFO b (by have := unhide HWS; omega)), fun j => World.frozen?_of_block (w := wr) (a := ⟨b, j, none⟩) (hFO b (by have := unhide HWS; omega))⟩) (by have := unhide HWS; omega) (by omega), (unhide HWR).trans hFB⟩
end Go.Proofs.YtkiaidjkhhljhaaGreat

namespace Go.Proofs.YtkiaidjkhhljhaaGreat
open Go.RowKit Go.PlainAid

theorem less_eqG : ∀ (x y : List UInt8), Op.bytesLess x y = decide (x < y)
  | [], [] => by simp [Op.bytesLess]
  | _ :: _, [] => by simp [Op.bytesLess]
  | [], _ :: _ => by simp [Op.bytesLess]
  | a :: x, b :: y => by
    rw [Op.bytesLess, less_eqG x y]
    simp only [List.cons_lt_cons_iff]
    by_cases h1 : a < b <;> by_cases h2 : a = b <;> by_cases h3 : x < y <;> simp [h1, h2, h3]
theorem told_eqG {l ts : List TS} (h : Told l ts) (hl : Asc l) : l = ts := by
  obtain ⟨ha, h1, h2⟩ := h
  have inj : ∀ {m : List TS}, Asc m → ∀ s ∈ m, ∀ t ∈ m, key s = key t → s = t := by
    intro m hm s hs t ht e
    obtain ⟨i, hi, rfl⟩ := List.getElem_of_mem hs
    obtain ⟨j, hj, rfl⟩ := List.getElem_of_mem ht
    by_cases hij : i = j
    · subst hij; rfl
    · exfalso
      have hp := List.pairwise_iff_getElem.1 hm
      rcases Nat.lt_or_gt_of_ne hij with hlt | hlt
      · have := hp i j (by simpa using hi) (by simpa using hj) hlt
        simp only [List.getElem_map] at this
        rw [e] at this; exact List.lt_irrefl _ this
      · have := hp j i (by simpa using hj) (by simpa using hi) hlt
        simp only [List.getElem_map] at this
        rw [e] at this; exact List.lt_irrefl _ this
  have nd : ∀ {m : List TS}, Asc m → m.Nodup := by
    intro m hm
    refine (List.pairwise_map.1 hm).imp ?_
    intro a b hab e
    rw [e] at hab
    exact List.lt_irrefl _ hab
  have hmem : ∀ s, s ∈ l ↔ s ∈ ts := fun s => ⟨fun hs => by
    obtain ⟨t, ht, e⟩ := h2 s hs
    rw [← inj hl t (h1 t ht) s hs e]
    exact ht, fun hs => h1 s hs⟩
  have hp : l.Perm ts := (List.perm_ext_iff_of_nodup (nd hl) (nd ha)).2 hmem
  refine List.Perm.eq_of_pairwise (le := fun a b => key a < key b) (fun a b _ _ h3 h4 => ?_) (List.pairwise_map.1 hl) (List.pairwise_map.1 ha) hp
  exact absurd (List.lt_trans h3 h4) (List.lt_irrefl _)
theorem typeB_ne {t : Int} (h : typeB t = true) : t ≠ 0 := fun e => by
  subst e
  unfold typeB typeW at h
  rw [if_neg (by omega), if_neg (by omega), if_neg (by omega), ByteArray.toList_eq] at h
  simp at h
theorem names_parts : ∀ (l pre : List ByteArray), namesFrom pre l = true → (∀ x ∈ l, nameB x.data.toList = true ∧ hasB pre x = false) ∧ l.Pairwise (fun a b => a.data.toList ≠ b.data.toList)
  | [], _, _ => ⟨fun _ hx => (by cases hx), List.Pairwise.nil⟩
  | y :: t, pre, h => by
    rw [namesFrom] at h
    simp only [Bool.and_eq_true, Bool.not_eq_true'] at h
    obtain ⟨h1, h2, h3⟩ := h
    obtain ⟨g1, g2⟩ := names_parts t (pre ++ [y]) h3
    have g3 : ∀ x ∈ t, hasB pre x = false ∧ y.data.toList ≠ x.data.toList := fun x hx => by
      have := (g1 x hx).2
      rw [hasB_snoc, Bool.or_eq_false_iff] at this
      refine ⟨this.1, fun e => ?_⟩
      have h5 := this.2
      rw [ByteArray.toList_eq, ByteArray.toList_eq, e] at h5
      simp at h5
    refine ⟨fun x hx => ?_, List.pairwise_cons.2 ⟨fun x hx => (g3 x hx).2, g2⟩⟩
    rcases List.mem_cons.1 hx with rfl | hx
    · exact ⟨h1, h2⟩
    · exact ⟨(g1 x hx).1, (g3 x hx).1⟩
theorem name_small {x : ByteArray} (h : nameB x.data.toList = true) : x.size ≤ 8 := by
  unfold nameB at h
  simp only [Bool.and_eq_true, decide_eq_true_eq] at h
  simpa using h.1.1.2
/-- What is known of the functions of a right module. -/
theorem ok_funs {m : TM} (h : m.okB = true) : m.funs.length ≤ 8 ∧ (∀ f ∈ m.funs, f.args.length ≤ 4 ∧ (∀ x ∈ f.args.map TA.type, x ≠ 0) ∧ f.name.size ≤ 8) ∧ m.funs.Pairwise (fun a b => a.name.data.toList ≠ b.name.data.toList) := by
  unfold TM.okB at h
  simp only [Bool.and_eq_true, decide_eq_true_eq, List.all_eq_true] at h
  obtain ⟨_, h2, _, _, _, h6, h7, _⟩ := h
  obtain ⟨g1, g2⟩ := names_parts _ _ h7
  refine ⟨h2, fun f hf => ?_, (List.pairwise_map (f := TF.name) (R := fun a b => a.data.toList ≠ b.data.toList)).1 g2⟩
  have hh := (h6 f hf).1
  unfold TF.headB at hh
  simp only [Bool.and_eq_true, decide_eq_true_eq, List.all_eq_true] at hh
  refine ⟨hh.1, fun x hx => ?_, name_small (g1 f.name (List.mem_map_of_mem hf)).1⟩
  obtain ⟨a, ha, rfl⟩ := List.mem_map.1 hx
  exact typeB_ne (hh.2.2.1 a ha)
/-- The signatures of the functions that are Pub. -/
def pubs (l : List TF) : List TS := (l.filter TF.pub).map sigOf
theorem pubs_snoc (l : List TF) (f : TF) : pubs (l ++ [f]) = pubs l ++ (if f.pub then [sigOf f] else []) := by
  unfold pubs
  rw [List.filter_append, List.map_append]
  cases h : f.pub <;> simp [h]
theorem pubs_keys {l : List TF} (h : l.Pairwise (fun a b => a.name.data.toList ≠ b.name.data.toList)) : (pubs l).Pairwise (fun a b => key a ≠ key b) := by
  unfold pubs
  exact List.pairwise_map.2 (h.sublist List.filter_sublist)
theorem pubs_mem {l : List TF} {s : TS} (h : s ∈ pubs l) : ∃ f ∈ l, s = sigOf f := by
  unfold pubs at h
  obtain ⟨f, hf, rfl⟩ := List.mem_map.1 h
  exact ⟨f, (List.mem_filter.1 hf).1, rfl⟩
theorem pubs_len (l : List TF) : (pubs l).length ≤ l.length := by
  unfold pubs
  rw [List.length_map]
  exact List.length_filter_le _ _
/-- A line is put where it belongs. -/
def putR (s : TS) : List TS → List TS
  | [] => [s]
  | t :: r => if key t < key s then t :: putR s r else s :: t :: r
theorem putR_mem (s x : TS) : ∀ l : List TS, x ∈ putR s l ↔ x = s ∨ x ∈ l
  | [] => by simp [putR]
  | t :: r => by
    rw [putR]
    split
    · rw [List.mem_cons, putR_mem s x r, List.mem_cons]
      constructor
      · rintro (h | h | h)
        · exact .inr (.inl h)
        · exact .inl h
        · exact .inr (.inr h)
      · rintro (h | h | h)
        · exact .inr (.inl h)
        · exact .inl h
        · exact .inr (.inr h)
    · rw [List.mem_cons]
theorem putR_asc {s : TS} : ∀ {l : List TS}, Asc l → (∀ t ∈ l, key t ≠ key s) → Asc (putR s l)
  | [], _, _ => by simp [putR, Asc]
  | t :: r, h, hne => by
    have hp : Asc r ∧ ∀ k ∈ r.map key, key t < k := by
      have := List.pairwise_cons.1 (show (key t :: r.map key).Pairwise (fun a b => a < b) from h)
      exact ⟨this.2, this.1⟩
    rw [putR]
    split
    · next hlt =>
      refine List.pairwise_cons.2 ⟨fun k hk => ?_, putR_asc hp.1 (fun x hx => hne x (List.mem_cons_of_mem _ hx))⟩
      obtain ⟨x, hx, rfl⟩ := List.mem_map.1 hk
      rcases (putR_mem s x r).1 hx with rfl | hx
      · exact hlt
      · exact hp.2 _ (List.mem_map_of_mem hx)
    · next hlt =>
      have hst : key s < key t := by
        by_cases h5 : key s < key t
        · exact h5
        · exact absurd (List.le_antisymm (List.not_lt.1 h5) (List.not_lt.1 hlt)) (hne t (by simp))
      refine List.pairwise_cons.2 ⟨fun k hk => ?_, h⟩
      rcases List.mem_cons.1 hk with rfl | hk
      · exact hst
      · exact List.lt_trans hst (hp.2 k hk)
theorem putR_at {s : TS} : ∀ {l : List TS} {k : Nat}, k ≤ l.length → (∀ j (hj : j < l.length), j < k → key l[j] < key s) → (∀ hk : k < l.length, ¬ key l[k] < key s) → putR s l = l.take k ++ s :: l.drop k
  | [], k, hk, _, _ => by
    have : k = 0 := by simpa using hk
    subst this
    simp [putR]
  | t :: r, 0, _, _, h2 => by
    have h3 : ¬ key t < key s := h2 (by simp)
    rw [putR, if_neg h3]
    simp
  | t :: r, k + 1, hk, h1, h2 => by
    have ht : key t < key s := h1 0 (by simp) (by omega)
    rw [putR, if_pos ht, putR_at (l := r) (k := k) (by simpa using hk) (fun j hj hjk => h1 (j + 1) (by simp; omega) (by omega)) (fun hk2 => h2 (by simp; omega))]
    simp
/-- All lines, put where they belong. -/
def putAll (l : List TS) : List TS := l.foldl (fun acc s => putR s acc) []
theorem putAll_snoc (l : List TS) (s : TS) : putAll (l ++ [s]) = putR s (putAll l) := by unfold putAll; rw [List.foldl_append]; rfl
theorem putAll_parts : ∀ (l acc : List TS), Asc acc → (∀ s ∈ l, ∀ t ∈ acc, key t ≠ key s) → l.Pairwise (fun a b => key a ≠ key b) → Asc (l.foldl (fun acc s => putR s acc) acc) ∧ ∀ x, x ∈ l.foldl (fun acc s => putR s acc) acc ↔ x ∈ l ∨ x ∈ acc
  | [], acc, h, _, _ => ⟨h, fun x => by simp⟩
  | s :: r, acc, h, hne, hp => by
    have hp' := List.pairwise_cons.1 hp
    obtain ⟨g1, g2⟩ := putAll_parts r (putR s acc) (putR_asc h (fun t ht => hne s (by simp) t ht)) (fun x hx t ht => by
      rcases (putR_mem s t acc).1 ht with rfl | ht
      · exact hp'.1 x hx
      · exact hne x (List.mem_cons_of_mem _ hx) t ht) hp'.2
    refine ⟨g1, fun x => ?_⟩
    rw [List.foldl_cons, g2 x, putR_mem, List.mem_cons]
    constructor
    · rintro (h | h | h)
      · exact .inl (.inr h)
      · exact .inl (.inl h)
      · exact .inr h
    · rintro ((h | h) | h)
      · exact .inr (.inl h)
      · exact .inl h
      · exact .inr (.inr h)
/-- What the table tells is what is put where it belongs. -/
theorem told_putAll {l ts : List TS} (h : Told l ts) (hp : l.Pairwise (fun a b => key a ≠ key b)) : putAll l = ts := by
  obtain ⟨g1, g2⟩ := putAll_parts l [] List.Pairwise.nil (fun _ _ t ht => by cases ht) hp
  have hm : ∀ x, x ∈ putAll l ↔ x ∈ l := fun x => by rw [show putAll l = l.foldl (fun acc s => putR s acc) [] from rfl, g2 x]; simp
  exact told_eqG ⟨h.1, fun s hs => (hm s).2 (h.2.1 s hs), fun s hs => h.2.2 s ((hm s).1 hs)⟩ g1
end Go.Proofs.YtkiaidjkhhljhaaGreat

namespace Go.Proofs.YtkiaidjkhhljhaaGreat
open Go.RowKit Go.PlainAid
open Go.Maps Go.Sort

/-- The face of a module. -/
def faceL (m : TM) : List TS := if m.okB = true then putAll (pubs m.funs) else []
/-- A list of signatures as an answer, each list in a block of its own. -/
def OwnL (w : World) (lo n : Nat) (v : Value) (l : List TS) : Prop :=
  (l = [] ∧ ∃ (a : Option Addr) (cap : Nat), v = .slice a 0 cap) ∨ ∃ (b cap : Nat) (vs : Nat → Value) (bs : Nat → Nat), v = .slice (some ⟨b, 0, none⟩) l.length cap ∧ LL w b vs bs l ∧ Apart lo n b bs l.length
/-- The cells of signatures, one behind the other. -/
def flatF (vs : Nat → Value) : Nat → List TS → List Value
  | _, [] => []
  | n, s :: t => .string s.name :: vs n :: .int .i64 s.type :: flatF vs (n + 1) t
def flatV (l : List TS) (vs : Nat → Value) : List Value := flatF vs 0 l
theorem flatF_snoc (vs : Nat → Value) (s : TS) : ∀ (n : Nat) (l : List TS), flatF vs n (l ++ [s]) = flatF vs n l ++ [.string s.name, vs (n + l.length), .int .i64 s.type]
  | n, [] => rfl
  | n, t :: r => by
    rw [List.cons_append, flatF, flatF, flatF_snoc vs s (n + 1) r, List.length_cons, show n + 1 + r.length = n + (r.length + 1) by omega]
    rfl
theorem flatF_congr (vs vs' : Nat → Value) : ∀ (n : Nat) (l : List TS), (∀ j, n ≤ j → j < n + l.length → vs j = vs' j) → flatF vs n l = flatF vs' n l
  | n, [], _ => rfl
  | n, t :: r, h => by
    rw [flatF, flatF, flatF_congr vs vs' (n + 1) r (fun j h1 h2 => h j (by omega) (by rw [List.length_cons]; omega)), h n (Nat.le_refl _) (by simp)]
theorem flatF_at (vs : Nat → Value) : ∀ (n : Nat) (l : List TS) (j : Nat) (hj : j < l.length), (flatF vs n l)[j * 3]? = some (.string l[j].name) ∧ (flatF vs n l)[j * 3 + 1]? = some (vs (n + j)) ∧ (flatF vs n l)[j * 3 + 2]? = some (.int .i64 l[j].type)
  | n, t :: r, 0, _ => ⟨rfl, rfl, rfl⟩
  | n, t :: r, j + 1, hj => by
    obtain ⟨h1, h2, h3⟩ := flatF_at vs (n + 1) r j (by simpa using hj)
    rw [show (j + 1) * 3 = j * 3 + 3 by omega, show j * 3 + 3 + 1 = j * 3 + 1 + 3 by omega, show j * 3 + 3 + 2 = j * 3 + 2 + 3 by omega, show n + (j + 1) = n + 1 + j by omega]
    exact ⟨h1, h2, h3⟩
theorem OwnI.tight {w : World} {lo n : Nat} {v : Value} {zs : List Int} (h : OwnI w lo n v zs) (d : Nat) (hd : d < lo) (hn : d < n) : ∃ b, d ≤ b ∧ b < n ∧ OwnI w b (b + 1) v zs := by
  obtain ⟨a, cap, hv, h⟩ := h
  rcases h with h | ⟨b, h1, h2, h3, h4, h5⟩
  · exact ⟨d, Nat.le_refl _, hn, a, cap, hv, .inl h⟩
  · exact ⟨b, by omega, h3, a, cap, hv, .inr ⟨b, h1, Nat.le_refl _, Nat.lt_succ_self _, h4, h5⟩⟩
theorem OwnI.one {w w' : World} {b : Nat} {v : Value} {zs : List Int} (h : OwnI w b (b + 1) v zs) (hb : w'.heap[b]? = w.heap[b]?) : OwnI w' b (b + 1) v zs :=
  h.same (fun x h1 h2 => by
    have hx : x = b := by omega
    subst hx
    exact ⟨fun j => World.cell?_of_block (w := w) (a := ⟨x, j, none⟩) hb, fun j => World.frozen?_of_block (w := w) (a := ⟨x, j, none⟩) hb⟩) (Nat.le_refl _) (Nat.le_refl _)
theorem told_len {l ts : List TS} (h : Told l ts) : ts.length ≤ l.length := by
  have nd : ts.Nodup := (List.pairwise_map.1 h.1).imp (fun {a b} hab e => by rw [e] at hab; exact List.lt_irrefl _ hab)
  exact nd.length_le_of_subset (fun x hx => h.2.1 x hx)
/-- The list in the making: the first k signatures, each list in a block of its own. -/
structure LoopL (base : Nat) (ts : List TS) (k : Nat) (vs : Nat → Value) (bs : Nat → Nat) (o : Value) (w : World) : Prop where
  row : w.ownsRow base 65 3 o k (flatV (ts.take k) vs)
  own : ∀ j (hj : j < ts.length), j < k → OwnI w (bs j) (bs j + 1) (vs j) ts[j].args
  lt : ∀ j, j < k → base ≤ bs j ∧ bs j < w.heap.size ∧ o.ownBlock ≠ some (bs j)
  ne : ∀ i j, i < k → j < k → i ≠ j → bs i ≠ bs j
theorem LoopL.start (base : Nat) (ts : List TS) (vs : Nat → Value) (bs : Nat → Nat) (w : World) : LoopL base ts 0 vs bs (.slice none 0 0) w :=
  ⟨World.ownsRow_nil _ _ _ _, fun _ _ h => absurd h (Nat.not_lt_zero _), fun _ h => absurd h (Nat.not_lt_zero _), fun _ _ h => absurd h (Nat.not_lt_zero _)⟩
theorem LoopL.next {base : Nat} {ts : List TS} {k : Nat} {vs : Nat → Value} {bs : Nat → Nat} {o : Value} {w w5 w7 : World} {v5 : Value} {g cap' : Nat} {elem : Obj} (h : LoopL base ts k vs bs o w) (hp : k < ts.length) (hw5 : Below w.heap.size w w5) (hsz : w.heap.size < w5.heap.size)
    (ho5 : OwnI w5 (w.heap.size + 1) w5.heap.size v5 ts[k].args) (hgrow : (w5.alloc elem).grownBy w7 o.ownBlock) (hat : o.ownBlock = some g ∨ g = w5.heap.size + 1) (hown : w7.ownsRow base 65 3 (.slice (some ⟨g, 0, none⟩) (k + 1) cap') (k + 1) (flatV (ts.take k) vs ++ [.string ts[k].name, v5, .int .i64 ts[k].type])) (hb : base ≤ w.heap.size) :
    ∃ vs' bs', LoopL base ts (k + 1) vs' bs' (.slice (some ⟨g, 0, none⟩) (k + 1) cap') w7 := by
  obtain ⟨B, hB1, hB2, hB3⟩ := ho5.tight w.heap.size (by omega) hsz
  have hol : ∀ x, o.ownBlock = some x → x < w.heap.size := fun x hx => (h.row.lt x hx).2
  have hs7 : w5.heap.size + 1 ≤ w7.heap.size := by have := hgrow.size; rw [alloc_size] at this; exact this
  have h57 : ∀ x, x < w5.heap.size → o.ownBlock ≠ some x → w7.heap[x]? = w5.heap[x]? := fun x hx hne => (hgrow.block x (by rw [alloc_size]; omega) (fun e => hne e.symm)).trans (Below.heap_alloc _ _ _ hx)
  have hBo : o.ownBlock ≠ some B := fun e => by have := hol B e; omega
  refine ⟨fun j => if j = k then v5 else vs j, fun j => if j = k then B else bs j, ?_, fun j hj hjk => ?_, fun j hj => ?_, fun i j hi hj hij => ?_⟩
  · have e : flatV (ts.take (k + 1)) (fun j => if j = k then v5 else vs j) = flatV (ts.take k) vs ++ [.string ts[k].name, v5, .int .i64 ts[k].type] := by
      rw [List.take_succ_eq_append_getElem hp]
      unfold flatV
      have hl : (ts.take k).length = k := by rw [List.length_take]; omega
      rw [flatF_snoc, flatF_congr (fun j => if j = k then v5 else vs j) vs 0 (ts.take k) (fun j _ h2 => if_neg (by omega)), hl]
      simp
    rw [e]
    exact hown
  · by_cases e : j = k
    · subst e
      simp only [if_true]
      exact hB3.one (h57 B hB2 hBo)
    · simp only [if_neg e]
      have hl := h.lt j (by omega)
      exact (h.own j hj (by omega)).one ((h57 (bs j) (by omega) hl.2.2).trans (hw5.block _ hl.2.1))
  · by_cases e : j = k
    · subst e
      simp only [if_true]
      refine ⟨by omega, by omega, ?_⟩
      show some g ≠ some B
      rcases hat with h1 | h1
      · rw [← h1]; exact hBo
      · simp; omega
    · simp only [if_neg e]
      have hl := h.lt j (by omega)
      refine ⟨hl.1, by omega, ?_⟩
      show some g ≠ some (bs j)
      rcases hat with h1 | h1
      · rw [← h1]; exact hl.2.2
      · simp; omega
  · by_cases e1 : i = k <;> by_cases e2 : j = k
    · omega
    · simp only [if_pos e1, if_neg e2]
      have := (h.lt j (by omega)).2.1
      omega
    · simp only [if_neg e1, if_pos e2]
      have := (h.lt i (by omega)).2.1
      omega
    · simp only [if_neg e1, if_neg e2]
      exact h.ne i j (by omega) (by omega) hij
theorem LoopL.done {base : Nat} {ts : List TS} {vs : Nat → Value} {bs : Nat → Nat} {o : Value} {w : World} (h : LoopL base ts ts.length vs bs o w) : OwnL w base w.heap.size o ts := by
  have hr := h.row
  rw [List.take_of_length_le (Nat.le_refl _)] at hr
  rcases hr.2 with ⟨h1, h2⟩ | ⟨g, cap, cur, h1, h2, h3, h4, h5, h6, h7⟩
  · exact .inl ⟨List.length_eq_zero_iff.1 h2, none, 0, h1⟩
  · have hgl : g < w.heap.size := by
      rcases Nat.lt_or_ge g w.heap.size with x | x
      · exact x
      · rw [Array.getElem?_eq_none x] at h3; cases h3
    have hcell : ∀ i, i < ts.length * 3 → w.cell? ⟨g, i, none⟩ = (flatF vs 0 ts)[i]? := fun i hi => by
      have e1 : w.cell? ⟨g, i, none⟩ = cur[i]? := by simp [World.cell?, h3]
      have e2 : (cur.toList.take (ts.length * 3))[i]? = cur.toList[i]? := List.getElem?_take_of_lt hi
      rw [e1, ← Array.getElem?_toList, ← e2, h7]
      rfl
    refine .inr ⟨g, cap, vs, bs, h1, ⟨fun j => by simp [World.frozen?, h3], fun j hj => ?_, fun j hj => ?_, fun j hj => ?_, fun j hj => h.own j hj hj⟩, ⟨⟨h2, hgl⟩, fun j hj => ?_, fun i j hi hj => h.ne i j hi hj⟩⟩
    · rw [hcell _ (by omega)]; exact (flatF_at vs 0 ts j hj).1
    · rw [hcell _ (by omega)]; have := (flatF_at vs 0 ts j hj).2.1; rwa [Nat.zero_add] at this
    · rw [hcell _ (by omega)]; exact (flatF_at vs 0 ts j hj).2.2
    · have hl := h.lt j hj
      refine ⟨hl.1, hl.2.1, fun e => hl.2.2 ?_⟩
      rw [h1, e]
      rfl
theorem OwnL.lower {w : World} {lo lo' n : Nat} {v : Value} {l : List TS} (h : OwnL w lo n v l) (hl : lo' ≤ lo) : OwnL w lo' n v l := by
  rcases h with h | ⟨b, cap, vs, bs, h1, h2, h3⟩
  · exact .inl h
  · exact .inr ⟨b, cap, vs, bs, h1, h2, ⟨⟨by have := h3.b0; omega, h3.b0.2⟩, fun j hj => ⟨by have := h3.bj j hj; omega, (h3.bj j hj).2⟩, h3.ne⟩⟩
theorem three_new (W : World) (x y z : Value) (t : TypeId) : ∀ j u, [x, y, z][j]? = some u → (W.alloc (.cells #[x, y, z] t)).cell? ((⟨W.heap.size, 0, none⟩ : Addr).add j) = some u := fun j u hu => by
  rw [Addr.add_lit, Nat.zero_add, alloc_cell]
  simpa using hu
theorem below_newG (w : World) (o : Obj) : Below w.heap.size w (w.alloc o) := (Below.refl _ _).alloc (Nat.le_refl _) _
theorem own_otherG {W W' : World} {base e s n B : Nat} {v : Value} {xs : List Value} (h : W.ownsRow base e s v n xs) (hg : W.grownBy W' (some B)) (hB : B < base) : W'.ownsRow base e s v n xs :=
  h.kept hg (by
    by_cases hv : v.ownBlock = none
    · exact .inl hv
    · right
      intro e
      have := (h.lt B e).1
      omega)
theorem below_grG {w w' W : World} {B n : Nat} (hb : Below n w W) (hg : W.grownBy w' (some B)) (hn : n ≤ B) (hs : n ≤ W.heap.size) : Below n w w' :=
  hb.grown hg hs (fun k e => by cases e; exact hn)
theorem sig_of_own {w : World} {lo : Nat} {v : Value} {s : TS} (h : OwnI w lo w.heap.size v s.args) (h1 : s.name.size ≤ 8) (h2 : s.args.length ≤ 4) : IsSig w lo w.heap.size (.agg #[.string s.name, v, .int .i64 s.type]) s := by
  obtain ⟨a, cap, rfl, hI⟩ := h.ints
  exact ⟨a, cap, rfl, ⟨by unfold maxLen; omega, by unfold maxLen; omega⟩, hI⟩

set_option maxRecDepth 100000 in
set_option maxHeartbeats 8000000 in
theorem FaceOfI_any (lo h : Nat) (v : Value) (m : TM) (w : World) (hM : IsMod w lo w.heap.size h v m) :
    Calls Tryz.prog 7 #[v] w fun r w' => ∃ v' : Value, r = .returned v' ∧ OwnL w' w.heap.size w'.heap.size v' (faceL m) ∧ Below w.heap.size w w' := by
  obtain ⟨i0, hi, hz0, hz1, hz2⟩ := info_parts infoSig
  have K : Keyed Tryz.prog 9 := string_keyed Tryz.underlying9
  have HOK := hide (fun (W : World) (hb : Below w.heap.size w W) => TreeOkI_any lo h v m W (IsMod.kept h hb hb.size _ _ hM))
  have HX : Hid (faceL m = if m.okB = true then putAll (pubs m.funs) else []) := hide rfl
  have HFN := hide (@ok_funs m)
  generalize faceL m = R at HX ⊢
  generalize m.okB = ok at HOK HX HFN
  obtain ⟨us, fs, mn⟩ := m
  obtain ⟨a1, a2, a3, k1, k2, k3, rfl, ⟨_, hz2', _, _, _⟩, _, q2, _⟩ := hM
  dsimp only at hz2' q2 HX HFN HOK
  have HFS := hide (fun (W : World) (hb : Below w.heap.size w W) => q2.kept hb hb.size)
  unfold maxLen at hz2'
  clear q2
  have NB := hide (Blk.new w [Value.slice a1 us.length k1, Value.slice a2 fs.length k2, Value.slice a3 mn.length k3] 27)
  have HW0 := hide (below_newG w (.cells [Value.slice a1 us.length k1, Value.slice a2 fs.length k2, Value.slice a3 mn.length k3].toArray 27))
  have hmm := @run_makeMap Tryz.prog
  go_enter Tryz.func7, Tryz.ntmps7
  go_wp2_with fail
  refine (unhide HOK _ (unhide HW0)).mono ?_
  rintro r w2 ⟨rfl, hb2⟩
  have HB2 := hide ((unhide HW0).trans (hb2.mono (unhide HW0).size))
  have n2 := (unhide NB).below hb2 (by simp)
  have p1 := n2.cellAt (i := 1) rfl
  have hs2 : w.heap.size + 1 ≤ w2.heap.size := by have := hb2.size; rw [alloc_size] at this; exact this
  have N2 := hide n2
  clear hb2 n2 HOK HW0 NB
  cases ok with
  | false =>
    have HRR : Hid (R = []) := hide (by rw [unhide HX]; rfl)
    clear HX HFN hmm
    go_wp2
    go_ret
    exact ⟨_, rfl, .inl ⟨unhide HRR, none, 0, rfl⟩, unhide HB2⟩
  | true =>
  have HX2 : Hid (R = putAll (pubs fs)) := hide (by rw [unhide HX]; rfl)
  obtain ⟨h8, hfn, hpw⟩ := unhide HFN rfl
  have HFF := hide hfn
  have HPW := hide (pubs_keys hpw)
  have H8 := hide h8
  clear HX HFN hfn hpw
  have p1' : ∀ o : Obj, (w2.alloc o).cell? ⟨w.heap.size, 1, none⟩ = some (.slice a2 fs.length k2) := fun o => ((unhide N2).old o (by omega)).cellAt (i := 1) rfl
  have hwn : w.heap.size < w2.heap.size := by omega
  have hwne : w.heap.size ≠ w2.heap.size := by omega
  go_wp2
  clear hmm p1 p1' hwne
  have HS2 := hide hs2
  clear hs2 hwn
  go_loopw [5, 16] (fun _ i wr => ∃ (k n : Nat) (D : DataW Value), k ≤ fs.length ∧ n ≤ k ∧ i = .int .i64 k ∧ Hid (wr.ownsMap Tryz.prog 9 RH w2.heap.size n D) ∧ Hid (Tab D (pubs (fs.take k))) ∧ Hid (Below w2.heap.size w2 wr) ∧ Hid (w2.heap.size + 1 ≤ wr.heap.size)) (fun _ i _ => fs.length - (intOf i).toNat)
  case atStart => exact ⟨0, 0, .map [], Nat.zero_le _, Nat.le_refl _, rfl, hide (World.ownsMap_made w2 Tryz.prog 9 RH), hide Tab.nil, hide (below_newG _ _), hide (by simp)⟩
  case round =>
    obtain ⟨k, n, D, hk, hnk, rfl, HM, HT, HB, HSR⟩ := hrel
    have HWR := hide ((unhide HB2).trans ((unhide HB).mono (unhide HB2).size))
    by_cases hp : k < fs.length
    · rcases unhide HFS _ (unhide HWR) with hq | ⟨b, off, rfl, hbl, hbn, hcs⟩
      · rw [hq] at hp; simp at hp
      obtain ⟨c0, c1, c2, c3, c4, c5, c6, c7, c8, d0, d1, d2, d3, d4, d5, d6, d7, d8, hr⟩ := hcs k hp
      have hfk := unhide HFF _ (List.getElem_mem hp)
      have htk : fs.take (k + 1) = fs.take k ++ [fs[k]] := List.take_succ_eq_append_getElem hp
      obtain ⟨x, hx⟩ : ∃ x, fs[k]'hp = x := ⟨_, rfl⟩
      rw [hx] at hr hfk htk
      have hsn := pubs_snoc (fs.take k) x
      rw [← htk] at hsn
      obtain ⟨xs, xp, xa, xl, xc, xt, xk, xm, xn, xd, ya, yl, yc, rfl, rfl, rfl, rfl, rfl, rfl, rfl, rfl, rfl⟩ := IsFun.form h hr
      have hxp : x.name = xs ∧ x.pub = xp := by
        obtain ⟨_, _, _, _, _, _, _, hv, _⟩ := hr
        simp only [Value.agg.injEq, Array.mk.injEq, List.cons.injEq, Value.string.injEq, Value.bool.injEq] at hv
        exact ⟨hv.1.symm, hv.2.1.symm⟩
      rw [hxp.2] at hsn
      have HSN := hide hsn
      have HFO := hide (fun (W' : World) (hb : Below wr.heap.size wr W') => faceSigOf_any lo h _ x W' (IsFun.same h (Below.same hb) (Nat.le_refl _) hb.size _ _ hr) (by have := hfk.1; omega) (by have := hfk.2.2; omega))
      have HXN := hide hxp.1
      have HFK := hide hfk
      clear hcs hr hx hfk htk hsn hxp
      cases xp with
      | false =>
        have HTT : Hid (Tab D (pubs (fs.take (k + 1)))) := hide (by rw [unhide HSN]; simpa using unhide HT)
        clear HFO
        go_wp2
        go_roundw
        case rel => exact ⟨k + 1, n, D, by omega, by omega, by go_num, hide (owns_below (unhide HM) (below_newG _ _) (by have := unhide HSR; omega)), HTT, hide ((unhide HB).alloc (unhide HB).size _), hide (by rw [alloc_size]; have := unhide HSR; omega)⟩
        case measure => simp [intOf]; omega
      | true =>
        have NC := hide (Blk.new wr [Value.string xs, Value.bool true, Value.slice xa xl xc, Value.int .i64 xt, Value.int .i64 xk, Value.int .i64 xm, Value.string xn, Value.string xd, Value.slice ya yl yc] 33)
        have HSG : Hid (∀ (lo2 : Nat) (W : World) (v : Value), OwnI W lo2 W.heap.size v (sigOf x).args → Calls Tryz.prog 24 #[.agg #[.string (sigOf x).name, v, .int .i64 (sigOf x).type]] W fun r w' => r = .returned (lineV (sigOf x)) ∧ Below W.heap.size W w') := hide (fun lo2 W v ho => faceLineOf_any lo2 _ (sigOf x) W (sig_of_own ho (unhide HFK).2.2 (by have := (unhide HFK).1; simpa [sigOf] using this)) (by have := (unhide HFK).1; simpa [sigOf] using this))
        have HKN : Hid (x.name.size ≤ 8) := hide (unhide HFK).2.2
        have HSX : Hid ((sigOf x).name = xs) := HXN
        have HTT : Hid (pubs (fs.take (k + 1)) = pubs (fs.take k) ++ [sigOf x]) := hide (by rw [unhide HSN]; simp)
        obtain ⟨s, hs⟩ : ∃ s, sigOf x = s := ⟨_, rfl⟩
        rw [hs] at HSG HSX HTT
        have hsz8 : xs.size ≤ 8 := by rw [← unhide HXN]; exact unhide HKN
        unfold OwnSig at HFO
        rw [hs] at HFO
        have HST := hide (fun (W : World) (hb : Below wr.heap.size wr W) => (owns_below (unhide HM) hb (by have := unhide HSR; omega)).store K Tryz.underlying58 (by unfold maxLen; omega) (key := .string xs) (val := lineV s) (kl := .string (key s)) (d := .held (lineV s)) (ps := []) (by have := WideMaps.keyOf_string_mk (P := Tryz.prog) (s := s.name) Tryz.underlying9 (by unfold maxLen; rw [unhide HSX]; omega); rw [unhide HSX] at this; unfold key; rw [unhide HSX]; exact this) rfl)
        clear hs HFK HXN HKN
        have z0' : ∀ W : World, Below (wr.alloc (.cells #[Value.string xs, Value.bool true, Value.slice xa xl xc, Value.int .i64 xt, Value.int .i64 xk, Value.int .i64 xm, Value.string xn, Value.string xd, Value.slice ya yl yc] 33)).heap.size (wr.alloc (.cells #[Value.string xs, Value.bool true, Value.slice xa xl xc, Value.int .i64 xt, Value.int .i64 xk, Value.int .i64 xm, Value.string xn, Value.string xd, Value.slice ya yl yc] 33)) W → W.cell? ⟨wr.heap.size, 0, none⟩ = some (.string xs) := fun W hb => ((unhide NC).below hb (by simp)).cellAt (i := 0) rfl
        have HZ0 := hide z0'
        clear z0'
        go_wp2_with fail
        go_region_with (first | (go_at_call 25; refine (unhide HFO _ (below_newG wr (.cells #[Value.string xs, Value.bool true, Value.slice xa xl xc, Value.int .i64 xt, Value.int .i64 xk, Value.int .i64 xm, Value.string xn, Value.string xd, Value.slice ya yl yc] 33)).drew).mono ?_; rintro r w5 ⟨v5, rfl, ho5, hb5⟩; have k5 : Below (wr.alloc (.cells #[Value.string xs, Value.bool true, Value.slice xa xl xc, Value.int .i64 xt, Value.int .i64 xk, Value.int .i64 xm, Value.string xn, Value.string xd, Value.slice ya yl yc] 33)).heap.size (wr.alloc (.cells #[Value.string xs, Value.bool true, Value.slice xa xl xc, Value.int .i64 xt, Value.int .i64 xk, Value.int .i64 xm, Value.string xn, Value.string xd, Value.slice ya yl yc] 33)) w5 := (Below.refl _ (wr.alloc (.cells #[Value.string xs, Value.bool true, Value.slice xa xl xc, Value.int .i64 xt, Value.int .i64 xk, Value.int .i64 xm, Value.string xn, Value.string xd, Value.slice ya yl yc] 33))).drew.trans hb5; have z5 := unhide HZ0 w5 k5) | (go_at_call 24; refine (unhide HSG _ w5 _ ho5).mono ?_; rintro r w6 ⟨rfl, hb6⟩; have k6 : Below (wr.alloc (.cells #[Value.string xs, Value.bool true, Value.slice xa xl xc, Value.int .i64 xt, Value.int .i64 xk, Value.int .i64 xm, Value.string xn, Value.string xd, Value.slice ya yl yc] 33)).heap.size (wr.alloc (.cells #[Value.string xs, Value.bool true, Value.slice xa xl xc, Value.int .i64 xt, Value.int .i64 xk, Value.int .i64 xm, Value.string xn, Value.string xd, Value.slice ya yl yc] 33)) w6 := k5.trans (hb6.mono k5.size); have z6 := unhide HZ0 w6 k6; have k7 : Below wr.heap.size wr w6 := (below_newG wr (.cells #[Value.string xs, Value.bool true, Value.slice xa xl xc, Value.int .i64 xt, Value.int .i64 xk, Value.int .i64 xm, Value.string xn, Value.string xd, Value.slice ya yl yc] 33)).trans (k6.mono (by simp)); obtain ⟨w7, hrun, hown7, hturn⟩ := unhide HST w6 k7))
        all_goals (
          have HO7 := hide hown7
          have HTU := hide hturn
          have K7 := hide k7
          clear hrun hown7 hturn k7 k6 hb6 k5 hb5 ho5
          have HT7 : Hid (Tab (D.put (.string (key s)) (.held (lineV s))) (pubs (fs.take (k + 1)))) := hide (by rw [unhide HTT]; exact (unhide HT).put (unhide HM).isMap s)
          have HB7 : Hid (Below w2.heap.size w2 w7) := hide (below_grG ((unhide HB).trans ((unhide K7).mono (unhide HB).size)) (unhide HTU).grown (Nat.le_refl _) (by have := (unhide K7).size; have := (unhide HB).size; omega))
          have HS7 : Hid (w2.heap.size + 1 ≤ w7.heap.size) := hide (by have := (unhide HTU).grown.size; have := (unhide K7).size; have := unhide HSR; omega)
          go_wp2
          go_roundw
          case rel => exact ⟨k + 1, n + 1, _, by omega, by omega, by go_num, HO7, HT7, HB7, HS7⟩
          case measure => simp [intOf] <;> omega)
    · have hek : k = fs.length := by omega
      subst hek
      have HT2 := unhide HT
      rw [List.take_of_length_le (Nat.le_refl _)] at HT2
      have HTD := hide (told_any w2.heap.size n D (pubs fs) wr (unhide HM) (by have := unhide H8; omega) HT2)
      clear HT2
      go_wp2_with fail
      refine (unhide HTD).mono ?_
      rintro r w3 ⟨v3, ts, rfl, hrow3, htold, hb3⟩
      have hts : putAll (pubs fs) = ts := told_putAll htold (unhide HPW)
      have HRR : Hid (R = ts) := hide ((unhide HX2).trans hts)
      have HSM : Hid (∀ s ∈ ts, s.name.size ≤ 8 ∧ s.args.length ≤ 4 ∧ fl4 (ar s 0) (ar s 1) (ar s 2) (ar s 3) 4 = s.args) := hide (fun s hs => by
        obtain ⟨f, hf, rfl⟩ := pubs_mem (htold.2.1 s hs)
        have h5 := unhide HFF f hf
        have h4 : (sigOf f).args.length ≤ 4 := by have := h5.1; simpa [sigOf] using this
        exact ⟨h5.2.2, h4, fl4_args h4 h5.2.1⟩)
      obtain ⟨a4, c4, hv3, hlen3, hlines⟩ := fown_lines hrow3
      subst hv3
      have HLN := hide hlines
      have HB3 := hide ((unhide HWR).trans (hb3.mono (unhide HWR).size))
      have hl8 : ts.length ≤ 1000000 := by
        have h1 : ts.length ≤ (pubs fs).length := told_len htold
        have h2 := pubs_len fs
        have := unhide H8
        omega
      clear hrow3 htold hb3 hts hlen3 hlines HTD HM HT HB HFS HFF HPW HX2
      go_wp2
      go_loopw [6, 8, 32] (fun o _ i wr => ∃ (k : Nat) (vs : Nat → Value) (bs : Nat → Nat), k ≤ ts.length ∧ i = .int .i64 k ∧ Hid (LoopL w3.heap.size ts k vs bs o wr) ∧ Hid (Below w3.heap.size w3 wr)) (fun _ _ i _ => ts.length - (intOf i).toNat)
      case atStart => exact ⟨0, fun _ => .slice none 0 0, fun _ => 0, Nat.zero_le _, rfl, hide (LoopL.start _ _ _ _ _), hide (Below.refl _ _)⟩
      case round =>
        obtain ⟨k, vs, bs, hk, rfl, HL, HB⟩ := hrel
        obtain ⟨oa, oc, hov⟩ := own_sliceN (unhide HL).row
        subst hov
        have HWR2 := hide ((unhide HB3).trans ((unhide HB).mono (unhide HB3).size))
        by_cases hp : k < ts.length
        · rcases unhide HLN with hq | ⟨g, rfl, hgn, hcs⟩
          · rw [hq] at hp; simp at hp
          have hcl : ∀ i, i < 6 → wr.cell? ⟨g, k * 6 + i, none⟩ = (lineC (ts[k]'hp))[i]? := fun i hi => ((unhide HB).cell (p := ⟨g, k * 6 + i, none⟩) hgn).trans (hcs k hp i hi)
          have hsm := unhide HSM _ (List.getElem_mem hp)
          have HNX := hide (fun (w5 w7 : World) (v5 : Value) (g cap' : Nat) (elem : Obj) (h1 : Below wr.heap.size wr w5) (h2 : wr.heap.size < w5.heap.size) (h3 : OwnI w5 (wr.heap.size + 1) w5.heap.size v5 (ts[k]'hp).args) h4 h5 h6 => (unhide HL).next (w7 := w7) (g := g) (cap' := cap') (elem := elem) hp h1 h2 h3 h4 h5 h6 (unhide HB).size)
          obtain ⟨s, hs⟩ : ∃ s, ts[k]'hp = s := ⟨_, rfl⟩
          rw [hs] at hcl hsm HNX
          obtain ⟨hs1, hs2, hs3⟩ := hsm
          have c0 : wr.cell? ⟨g, k * 6, none⟩ = some (.string s.name) := hcl 0 (by omega)
          have c1 : wr.cell? ⟨g, k * 6 + 1, none⟩ = some (.int .i64 (ar s 0)) := hcl 1 (by omega)
          have c2 : wr.cell? ⟨g, k * 6 + 2, none⟩ = some (.int .i64 (ar s 1)) := hcl 2 (by omega)
          have c3 : wr.cell? ⟨g, k * 6 + 3, none⟩ = some (.int .i64 (ar s 2)) := hcl 3 (by omega)
          have c4 : wr.cell? ⟨g, k * 6 + 4, none⟩ = some (.int .i64 (ar s 3)) := hcl 4 (by omega)
          have c5 : wr.cell? ⟨g, k * 6 + 5, none⟩ = some (.int .i64 s.type) := hcl 5 (by omega)
          have HSG := hide (fun (W : World) => sigM_any s.name (ar s 0) (ar s 1) (ar s 2) (ar s 3) s.type s.args hs3 W)
          generalize ar s 0 = x0 at c1 HSG
          generalize ar s 1 = x1 at c2 HSG
          generalize ar s 2 = x2 at c3 HSG
          generalize ar s 3 = x3 at c4 HSG
          obtain ⟨nm, args, ty⟩ := s
          dsimp only at c0 c5 HSG HNX
          clear hcs hcl hs hs1 hs2 hs3
          go_wp2_with fail
          refine (unhide HSG _).mono ?_
          rintro r w5 ⟨v5, rfl, ho5, hb5⟩
          rw [alloc_size] at ho5
          have hb5' : Below wr.heap.size wr w5 := (below_newG wr (.cells [Value.string nm, Value.int .i64 x0, Value.int .i64 x1, Value.int .i64 x2, Value.int .i64 x3, Value.int .i64 ty].toArray 61)).trans (hb5.mono (by simp))
          have hs5 : wr.heap.size < w5.heap.size := by have := hb5.size; rw [alloc_size] at this; omega
          obtain ⟨a5, c5', hv5, -⟩ := id ho5
          subst hv5
          have HO5 := hide ho5
          have HB5 := hide hb5'
          have hrow5 := own_keptN (unhide HL).row hb5'
          have HROW5 := hide hrow5
          clear ho5 hb5 hb5' c0 c1 c2 c3 c4 c5 HSG hrow5
          go_wp2_with (at_builtin; refine wpList_append_lies _ rfl _ _ 34 rfl w3.heap.size 65 i0 (.agg #[.string ⟨#[]⟩, .slice none 0 0, .int .i64 0]) 3 48 Tryz.underlying34 hi hz0 hz1 hz2 rfl (by decide) (.slice oa k oc) k (flatV (ts.take k) vs) rfl ((unhide HROW5).alloc _) ⟨w5.heap.size, 0, none⟩ 1 1 [.string nm, .slice a5 args.length c5', .int .i64 ty] rfl rfl (three_new w5 _ _ _ 65) (by simp [Value.oneCell']) (by decide) (by unfold maxLen; omega) (by omega) (by have := (unhide HB).size; simp; omega) (w5.heap.size + 1) (by simp) ?_; intro g7 cap7 w7 hown7 hgrow7 hat7 hlt7; obtain ⟨vs', bs', hL7⟩ := unhide HNX w5 w7 _ g7 cap7 _ (unhide HB5) hs5 (unhide HO5) hgrow7 hat7 hown7; have HL7 := hide hL7; have hb7 : Below w3.heap.size (w5.alloc (.cells #[.string nm, .slice a5 args.length c5', .int .i64 ty] 65)) w7 := (Below.refl _ _).grown hgrow7 (by have := (unhide HB).size; simp; omega) (fun q hq => ((unhide HL).row.lt q hq).1); have HB7 := hide ((unhide HB).trans (((unhide HB5).mono (unhide HB).size).trans ((((Below.refl _ w5).alloc (by have := (unhide HB).size; omega) _)).trans hb7))); clear hL7 hb7 hown7 hgrow7 hat7 hlt7)
          go_roundw
          case rel => exact ⟨k + 1, vs', bs', by omega, by go_num, HL7, HB7⟩
          case measure => simp [intOf] <;> omega
        · have hek : k = ts.length := by omega
          subst hek
          have HD := hide (unhide HL).done
          go_wp2
          go_ret
          refine ⟨_, rfl, ?_, unhide HWR2⟩
          rw [unhide HRR]
          exact (unhide HD).lower (unhide HB3).size
end Go.Proofs.YtkiaidjkhhljhaaGreat

namespace Go.Proofs.YtkiaidjkhhljhaaGreat
open Go.RowKit Go.PlainAid

theorem below_newY2 (w : World) (o : Obj) : Below w.heap.size w (w.alloc o) := (Below.refl _ _).alloc (Nat.le_refl _) _
/-- The cells of signatures with their lists of numbers. -/
def cellsP (p : TS × Value) : List Value := [.string p.1.name, p.2, .int .i64 p.1.type]
def flatP (L : List (TS × Value)) : List Value := L.flatMap cellsP
theorem flatP_len (L : List (TS × Value)) : (flatP L).length = L.length * 3 := by
  unfold flatP
  rw [List.length_flatMap]
  have : L.map (fun a => (cellsP a).length) = List.replicate L.length 3 := by
    rw [List.eq_replicate_iff]
    exact ⟨by simp, fun x hx => by obtain ⟨p, _, rfl⟩ := List.mem_map.1 hx; rfl⟩
  rw [this]
  simp
theorem flatP_append (L M : List (TS × Value)) : flatP (L ++ M) = flatP L ++ flatP M := by unfold flatP; rw [List.flatMap_append]
theorem flatP_take (L : List (TS × Value)) (k : Nat) (hk : k ≤ L.length) : (flatP L).take (k * 3) = flatP (L.take k) := by
  have h : flatP L = flatP (L.take k) ++ flatP (L.drop k) := by rw [← flatP_append, List.take_append_drop]
  have hl : (flatP (L.take k)).length = k * 3 := by rw [flatP_len, List.length_take]; omega
  rw [h, ← hl, List.take_left]
theorem flatP_drop (L : List (TS × Value)) (k : Nat) (hk : k ≤ L.length) : (flatP L).drop (k * 3) = flatP (L.drop k) := by
  have h : flatP L = flatP (L.take k) ++ flatP (L.drop k) := by rw [← flatP_append, List.take_append_drop]
  have hl : (flatP (L.take k)).length = k * 3 := by rw [flatP_len, List.length_take]; omega
  rw [h, ← hl, List.drop_left]
theorem flatP_at (L : List (TS × Value)) (j : Nat) (hj : j < L.length) : (flatP L)[j * 3]? = some (.string L[j].1.name) ∧ (flatP L)[j * 3 + 1]? = some L[j].2 ∧ (flatP L)[j * 3 + 2]? = some (.int .i64 L[j].1.type) := by
  have h1 := flatP_drop L j (by omega)
  rw [List.drop_eq_getElem_cons hj] at h1
  have h2 : ∀ i, (flatP L)[j * 3 + i]? = (flatP (L[j] :: L.drop (j + 1)))[i]? := fun i => by rw [← h1, List.getElem?_drop]
  exact ⟨h2 0, h2 1, h2 2⟩
theorem flatP_one (L : List (TS × Value)) (hs : ∀ p ∈ L, ∃ a l c, p.2 = .slice a l c) : ∀ u ∈ flatP L, u.oneCell' = true := fun u hu => by
  unfold flatP at hu
  obtain ⟨p, hp, hu⟩ := List.mem_flatMap.1 hu
  obtain ⟨a, l, c, e⟩ := hs p hp
  unfold cellsP at hu
  rw [e] at hu
  simp only [List.mem_cons, List.not_mem_nil, or_false] at hu
  rcases hu with rfl | rfl | rfl <;> rfl
theorem three_newE (W : World) (x y z : Value) (t : TypeId) : ∀ j u, [x, y, z][j]? = some u → (W.alloc (.cells #[x, y, z] t)).cell? ((⟨W.heap.size, 0, none⟩ : Addr).add j) = some u := fun j u hu => by
  rw [Addr.add_lit, Nat.zero_add, alloc_cell]
  simpa using hu
theorem own_succE {W : World} {base : Nat} {e : TypeId} {size : Nat} {v : Value} {k : Nat} {xs : List Value} (h : W.ownsRow base e size v (k + 1) xs) : ∃ g cap, v = .slice (some ⟨g, 0, none⟩) (k + 1) cap := by
  rcases h.2 with ⟨_, h0⟩ | ⟨g, cap, cur, hv, _⟩
  · omega
  · exact ⟨g, cap, hv⟩
theorem own_lowerE {W : World} {m m' e size k : Nat} {v : Value} {xs : List Value} (h : W.ownsRow m e size v k xs) (hm : m' ≤ m) : W.ownsRow m' e size v k xs := by
  refine ⟨h.1, ?_⟩
  rcases h.2 with hn | ⟨g, cap, cur, hv, hg, rest⟩
  · exact .inl hn
  · exact .inr ⟨g, cap, cur, hv, by omega, rest⟩
/-- The list with a line put where it belongs. -/
def putP (p : TS × Value) (L : List (TS × Value)) (k : Nat) : List (TS × Value) := L.take k ++ p :: L.drop k

set_option maxRecDepth 100000 in
set_option maxHeartbeats 8000000 in
theorem l3Put_any (base b cap : Nat) (L : List (TS × Value)) (s : TS) (sa : Option Addr) (sl sc : Nat) (w : World) (hrow : w.ownsRow base 65 3 (.slice (some ⟨b, 0, none⟩) L.length cap) L.length (flatP L)) (hL : ∀ p ∈ L, ∃ a l c, p.2 = .slice a l c) (hn : L.length ≤ 1000) :
    Calls Tryz.prog 32 #[.slice (some ⟨b, 0, none⟩) L.length cap, .agg #[.string s.name, .slice sa sl sc, .int .i64 s.type]] w fun r w' => ∃ (g cap' k : Nat), r = .returned (.slice (some ⟨g, 0, none⟩) (L.length + 1) cap') ∧ w'.ownsRow w.heap.size 65 3 (.slice (some ⟨g, 0, none⟩) (L.length + 1) cap') (L.length + 1) (flatP (putP (s, .slice sa sl sc) L k)) ∧ putR s (L.map Prod.fst) = (putP (s, .slice sa sl sc) L k).map Prod.fst ∧ Below w.heap.size w w' := by
  obtain ⟨i0, hi, hz0, hz1, hz2⟩ := info_parts infoSig
  have hcell : ∀ i u, (flatP L)[i]? = some u → w.cell? ⟨b, i, none⟩ = some u := fun i u hu => by
    have := hrow.cells (g := b) rfl i u hu
    rwa [Addr.add_lit, Nat.zero_add] at this
  have hbl : b < w.heap.size := (hrow.lt b rfl).2
  have hcap : L.length ≤ cap ∧ cap ≤ maxLen := by
    rcases hrow.2 with ⟨h, _⟩ | ⟨g, c, cur, h, _, _, h4, h5, _⟩
    · cases h
    · cases h; exact ⟨h4, h5⟩
  unfold maxLen at hcap
  obtain ⟨hcap1, hcap2⟩ := hcap
  have HC := hide hcell
  have HL := hide hL
  have N0 := hide (Blk.new w [.string s.name, .slice sa sl sc, .int .i64 s.type] 65)
  have HW := hide (below_newY2 w (.cells #[.string s.name, .slice sa sl sc, .int .i64 s.type] 65))
  clear hcell hL hrow
  go_enter Tryz.func32, Tryz.ntmps32
  go_wp2
  obtain ⟨W, hWW⟩ : ∃ W, W = (w.alloc (.cells #[.string s.name, .slice sa sl sc, .int .i64 s.type] 65)) := ⟨_, rfl⟩
  have hWs : W.heap.size = w.heap.size + 1 := by rw [hWW]; simp
  rw [← hWW] at N0 HW ⊢
  clear hWW
  have HWS := hide hWs
  clear hWs
  go_loopw [5] (fun i wr => ∃ k q : Nat, k ≤ L.length ∧ i = .int .i64 k ∧ wr = W.drewN q ∧ Hid (∀ j (hj : j < L.length), j < k → key L[j].1 < key s)) (fun i _ => L.length - (intOf i).toNat)
  case atStart => exact ⟨0, 0, Nat.zero_le _, rfl, rfl, hide (fun j _ hj => absurd hj (Nat.not_lt_zero _))⟩
  case round =>
    obtain ⟨k, q, hk, rfl, rfl, HK⟩ := hrel
    by_cases hp : k < L.length
    · have hck : W.cell? ⟨b, k * 3, none⟩ = some (.string L[k].1.name) := ((unhide HW).cell (p := ⟨b, k * 3, none⟩) hbl).trans (unhide HC _ _ (flatP_at L k hp).1)
      have hcs : W.cell? ⟨w.heap.size, 0, none⟩ = some (.string s.name) := (unhide N0).cellAt (i := 0) rfl
      obtain ⟨t, ht⟩ : ∃ t, L[k].1 = t := ⟨_, rfl⟩
      rw [ht] at hck
      have HTT := hide ht
      clear ht
      cases hlt : Op.bytesLess t.name.toList s.name.toList with
      | true =>
        have HLT : Hid (key L[k].1 < key s) := hide (by rw [unhide HTT]; unfold key; rw [ByteArray.toList_eq, ByteArray.toList_eq, less_eqG] at hlt; exact of_decide_eq_true hlt)
        go_wp2
        go_region
        go_wp2
        go_roundw
        case rel => exact ⟨k + 1, _, by omega, by go_num, rfl, hide (fun j hj hjk => by
          by_cases e : j = k
          · subst e; exact unhide HLT
          · exact unhide HK j hj (by omega))⟩
        case measure => simp [intOf]; omega
      | false =>
        go_wp2
        go_region
        -- behind the loop
        have HFIN : Hid (∀ hk : k < L.length, ¬ key L[k].1 < key s) := hide (fun _ h => by rw [unhide HTT] at h; unfold key at h; rw [ByteArray.toList_eq, ByteArray.toList_eq, less_eqG] at hlt; exact of_decide_eq_false hlt h)
        have HPUT : Hid (putR s (L.map Prod.fst) = (putP (s, .slice sa sl sc) L k).map Prod.fst) := hide (by
          rw [putR_at (l := L.map Prod.fst) (k := k) (by simpa using hk) (fun j hj hjk => by rw [List.getElem_map]; exact unhide HK j (by simpa using hj) hjk) (fun hk2 => by rw [List.getElem_map]; exact unhide HFIN (by simpa using hk2))]
          unfold putP
          rw [List.map_append, List.map_cons, List.map_take, List.map_drop])
        have HTL : Hid ((flatP (L.take k)).length = k * 3) := hide (by rw [flatP_len, List.length_take]; omega)
        have HDL : Hid ((flatP (L.drop k)).length = (L.length - k) * 3) := hide (by rw [flatP_len, List.length_drop])
        have HND : Hid (∀ W' : World, Below W.heap.size W W' → ∀ j u, (flatP (L.drop k))[j]? = some u → W'.cell? ((⟨b, k * 3, none⟩ : Addr).add j) = some u) := hide (fun W' hb j u hu => by
          rw [← flatP_drop L k hk, List.getElem?_drop] at hu
          rw [Addr.add_lit]
          exact (hb.cell (p := ⟨b, k * 3 + j, none⟩) (by show b < _; have := unhide HWS; omega)).trans (((unhide HW).cell (p := ⟨b, k * 3 + j, none⟩) hbl).trans (unhide HC _ _ hu)))
        have HNT : Hid (∀ W' : World, Below (W.drewN (q + 1)).heap.size (W.drewN (q + 1)) W' → ∀ j u, (flatP (L.take k))[j]? = some u → W'.cell? ((⟨b, 0, none⟩ : Addr).add j) = some u) := hide (fun W' hb j u hu => by
          have hj : j < k * 3 := by
            rcases Nat.lt_or_ge j (k * 3) with x | x
            · exact x
            · rw [List.getElem?_eq_none (by rw [unhide HTL]; exact x)] at hu; cases hu
          rw [← flatP_take L k hk, List.getElem?_take_of_lt hj] at hu
          rw [Addr.add_lit, Nat.zero_add]
          exact (hb.cell (p := ⟨b, j, none⟩) (by show b < W.heap.size; have := unhide HWS; omega)).trans (((unhide HW).cell (p := ⟨b, j, none⟩) hbl).trans (unhide HC _ _ hu)))
        go_wp2_with (at_builtin; first | (refine wpList_append_own _ rfl _ _ 34 rfl W.heap.size 65 i0 (.agg #[.string ⟨#[]⟩, .slice none 0 0, .int .i64 0]) 3 48 Tryz.underlying34 hi hz0 hz1 hz2 rfl (by decide) (.slice (some ⟨W.heap.size, 0, none⟩) 0 0) 0 [] rfl (World.ownsRow_lit (W.drewN (q + 1)) #[] 0 (Nat.le_refl _) (Nat.zero_le _) rfl) ⟨b, 0, none⟩ k cap (flatP (L.take k)) rfl (unhide HTL) (fun j u hu => unhide HNT _ (below_newY2 _ _) j u hu) (flatP_one _ (fun p hp => unhide HL p (List.mem_of_mem_take hp))) (by unfold maxLen; omega) (by omega) (by simp) ?_; intro v1 w1 hown1 hgrow1 _; rw [Nat.zero_add, List.nil_append] at hown1; obtain ⟨o1, p1, rfl⟩ := own_sliceN hown1; have hb1 : Below W.heap.size W w1 := (below_drewN (Below.refl _ W) _).trans ((below_newY2 (W.drewN (q + 1)) (.cells #[] 65)).trans ((Below.refl _ _).grown hgrow1 (by simp) (fun x hx => by cases hx; exact Nat.le_refl _))); have n1 := (unhide N0).below hb1 (by have := unhide HWS; omega); have e0 := n1.cellAt (i := 0) rfl; have e1 := n1.cellAt (i := 1) rfl; have e2 := n1.cellAt (i := 2) rfl; have HO1 := hide hown1; have HB1 := hide hb1; clear n1 hb1 hown1 hgrow1) | (refine wpList_append_own _ rfl _ _ 34 rfl W.heap.size 65 i0 (.agg #[.string ⟨#[]⟩, .slice none 0 0, .int .i64 0]) 3 48 Tryz.underlying34 hi hz0 hz1 hz2 rfl (by decide) (.slice o1 k p1) k (flatP (L.take k)) rfl ((unhide HO1).alloc _) ⟨w1.heap.size, 0, none⟩ 1 1 [.string s.name, .slice sa sl sc, .int .i64 s.type] rfl rfl (three_newE w1 _ _ _ 65) (by simp [Value.oneCell']) (by unfold maxLen; omega) (by omega) (by have := (unhide HB1).size; simp; omega) ?_; intro v2 w2 hown2 hgrow2 _; obtain ⟨o2, p2, rfl⟩ := own_sliceN hown2; have hb2 : Below W.heap.size W w2 := (unhide HB1).trans ((((Below.refl _ w1).alloc (unhide HB1).size _)).trans ((Below.refl _ _).grown hgrow2 (by have := (unhide HB1).size; simp; omega) (fun x hx => ((unhide HO1).lt x hx).1))); have HO2 := hide hown2; have HB2 := hide hb2; clear hb2 hown2 hgrow2 e0 e1 e2) | (refine wpList_append_own _ rfl _ _ 34 rfl W.heap.size 65 i0 (.agg #[.string ⟨#[]⟩, .slice none 0 0, .int .i64 0]) 3 48 Tryz.underlying34 hi hz0 hz1 hz2 rfl (by decide) (.slice o2 (k + 1) p2) (k + 1) (flatP (L.take k) ++ [.string s.name, .slice sa sl sc, .int .i64 s.type]) rfl (unhide HO2) ⟨b, k * 3, none⟩ (L.length - k) (cap - k) (flatP (L.drop k)) rfl (unhide HDL) (fun j u hu => unhide HND _ (unhide HB2) j u hu) (flatP_one _ (fun p hp => unhide HL p (List.mem_of_mem_drop hp))) (by unfold maxLen; omega) (by omega) (unhide HB2).size ?_; intro v3 w3 hown3 hgrow3 _; have hb3 : Below W.heap.size W w3 := (unhide HB2).trans ((Below.refl _ _).grown hgrow3 (unhide HB2).size (fun x hx => ((unhide HO2).lt x hx).1)); rw [show k + 1 + (L.length - k) = L.length + 1 by omega] at hown3; obtain ⟨g3, c3, rfl⟩ := own_succE hown3; have HO3 := hide hown3; have HB3 := hide hb3; clear hb3 hown3 hgrow3))
        have HQ : Hid (w3.ownsRow w.heap.size 65 3 (.slice (some ⟨g3, 0, none⟩) (L.length + 1) c3) (L.length + 1) (flatP (putP (s, .slice sa sl sc) L k))) := hide (by
          have ho := unhide HO3
          rw [List.append_assoc] at ho
          have e : flatP (putP (s, .slice sa sl sc) L k) = flatP (L.take k) ++ ([.string s.name, .slice sa sl sc, .int .i64 s.type] ++ flatP (L.drop k)) := by
            unfold putP
            rw [flatP_append]
            rfl
          rw [e]
          exact own_lowerE ho (unhide HW).size)
        have HBF := hide ((unhide HW).trans ((unhide HB3).mono (unhide HW).size))
        go_ret
        first
          | exact ⟨g3, c3, k, rfl, unhide HQ, unhide HPUT, unhide HBF⟩
          | exact ⟨g3, c3, rfl, k, unhide HQ, unhide HPUT, unhide HBF⟩
          | exact ⟨g3, c3, rfl, ⟨k, unhide HQ, unhide HPUT⟩, unhide HBF⟩
    · by_cases hck : cap = k
      · subst hck
        go_wp2
        go_region
        -- behind the loop
        have HFIN : Hid (∀ hk : cap < L.length, ¬ key L[cap].1 < key s) := hide (fun h => absurd h hp)
        have HPUT : Hid (putR s (L.map Prod.fst) = (putP (s, .slice sa sl sc) L cap).map Prod.fst) := hide (by
          rw [putR_at (l := L.map Prod.fst) (k := cap) (by simpa using hk) (fun j hj hjk => by rw [List.getElem_map]; exact unhide HK j (by simpa using hj) hjk) (fun hk2 => by rw [List.getElem_map]; exact unhide HFIN (by simpa using hk2))]
          unfold putP
          rw [List.map_append, List.map_cons, List.map_take, List.map_drop])
        have HDE : Hid (flatP (L.drop cap) = []) := hide (by rw [List.drop_of_length_le (by omega)]; rfl)
        have HTL : Hid ((flatP (L.take cap)).length = cap * 3) := hide (by rw [flatP_len, List.length_take]; omega)
        have HDL : Hid ((flatP (L.drop cap)).length = (L.length - cap) * 3) := hide (by rw [flatP_len, List.length_drop])
        have HND : Hid (∀ W' : World, Below W.heap.size W W' → ∀ j u, (flatP (L.drop cap))[j]? = some u → W'.cell? ((⟨b, cap * 3, none⟩ : Addr).add j) = some u) := hide (fun W' hb j u hu => by
          rw [← flatP_drop L cap hk, List.getElem?_drop] at hu
          rw [Addr.add_lit]
          exact (hb.cell (p := ⟨b, cap * 3 + j, none⟩) (by show b < _; have := unhide HWS; omega)).trans (((unhide HW).cell (p := ⟨b, cap * 3 + j, none⟩) hbl).trans (unhide HC _ _ hu)))
        have HNT : Hid (∀ W' : World, Below (W.drewN (q + 1)).heap.size (W.drewN (q + 1)) W' → ∀ j u, (flatP (L.take cap))[j]? = some u → W'.cell? ((⟨b, 0, none⟩ : Addr).add j) = some u) := hide (fun W' hb j u hu => by
          have hj : j < cap * 3 := by
            rcases Nat.lt_or_ge j (cap * 3) with x | x
            · exact x
            · rw [List.getElem?_eq_none (by rw [unhide HTL]; exact x)] at hu; cases hu
          rw [← flatP_take L cap hk, List.getElem?_take_of_lt hj] at hu
          rw [Addr.add_lit, Nat.zero_add]
          exact (hb.cell (p := ⟨b, j, none⟩) (by show b < W.heap.size; have := unhide HWS; omega)).trans (((unhide HW).cell (p := ⟨b, j, none⟩) hbl).trans (unhide HC _ _ hu)))
        go_wp2_with (at_builtin; first | (refine wpList_append_own _ rfl _ _ 34 rfl W.heap.size 65 i0 (.agg #[.string ⟨#[]⟩, .slice none 0 0, .int .i64 0]) 3 48 Tryz.underlying34 hi hz0 hz1 hz2 rfl (by decide) (.slice (some ⟨W.heap.size, 0, none⟩) 0 0) 0 [] rfl (World.ownsRow_lit (W.drewN (q + 1)) #[] 0 (Nat.le_refl _) (Nat.zero_le _) rfl) ⟨b, 0, none⟩ cap cap (flatP (L.take cap)) rfl (unhide HTL) (fun j u hu => unhide HNT _ (below_newY2 _ _) j u hu) (flatP_one _ (fun p hp => unhide HL p (List.mem_of_mem_take hp))) (by unfold maxLen; omega) (by omega) (by simp) ?_; intro v1 w1 hown1 hgrow1 _; rw [Nat.zero_add, List.nil_append] at hown1; obtain ⟨o1, p1, rfl⟩ := own_sliceN hown1; have hb1 : Below W.heap.size W w1 := (below_drewN (Below.refl _ W) _).trans ((below_newY2 (W.drewN (q + 1)) (.cells #[] 65)).trans ((Below.refl _ _).grown hgrow1 (by simp) (fun x hx => by cases hx; exact Nat.le_refl _))); have n1 := (unhide N0).below hb1 (by have := unhide HWS; omega); have e0 := n1.cellAt (i := 0) rfl; have e1 := n1.cellAt (i := 1) rfl; have e2 := n1.cellAt (i := 2) rfl; have HO1 := hide hown1; have HB1 := hide hb1; clear n1 hb1 hown1 hgrow1) | (refine wpList_append_own _ rfl _ _ 34 rfl W.heap.size 65 i0 (.agg #[.string ⟨#[]⟩, .slice none 0 0, .int .i64 0]) 3 48 Tryz.underlying34 hi hz0 hz1 hz2 rfl (by decide) (.slice o1 cap p1) cap (flatP (L.take cap)) rfl ((unhide HO1).alloc _) ⟨w1.heap.size, 0, none⟩ 1 1 [.string s.name, .slice sa sl sc, .int .i64 s.type] rfl rfl (three_newE w1 _ _ _ 65) (by simp [Value.oneCell']) (by unfold maxLen; omega) (by omega) (by have := (unhide HB1).size; simp; omega) ?_; intro v2 w2 hown2 hgrow2 _; obtain ⟨o2, p2, rfl⟩ := own_sliceN hown2; have hb2 : Below W.heap.size W w2 := (unhide HB1).trans ((((Below.refl _ w1).alloc (unhide HB1).size _)).trans ((Below.refl _ _).grown hgrow2 (by have := (unhide HB1).size; simp; omega) (fun x hx => ((unhide HO1).lt x hx).1))); have HO2 := hide hown2; have HB2 := hide hb2; clear hb2 hown2 hgrow2 e0 e1 e2) | (refine wpList_append_own _ rfl _ _ 34 rfl W.heap.size 65 i0 (.agg #[.string ⟨#[]⟩, .slice none 0 0, .int .i64 0]) 3 48 Tryz.underlying34 hi hz0 hz1 hz2 rfl (by decide) (.slice o2 (cap + 1) p2) (cap + 1) (flatP (L.take cap) ++ [.string s.name, .slice sa sl sc, .int .i64 s.type]) rfl (unhide HO2) ⟨b, 0, none⟩ 0 0 ([] : List Value) rfl rfl (fun j u hu => by simp at hu) (fun u hu => by cases hu) (by unfold maxLen; omega) (by omega) (unhide HB2).size ?_; intro v3 w3 hown3 hgrow3 _; have hb3 : Below W.heap.size W w3 := (unhide HB2).trans ((Below.refl _ _).grown hgrow3 (unhide HB2).size (fun x hx => ((unhide HO2).lt x hx).1)); rw [show cap + 1 + 0 = L.length + 1 by omega] at hown3; obtain ⟨g3, c3, rfl⟩ := own_succE hown3; have HO3 := hide hown3; have HB3 := hide hb3; clear hb3 hown3 hgrow3))
        have HQ : Hid (w3.ownsRow w.heap.size 65 3 (.slice (some ⟨g3, 0, none⟩) (L.length + 1) c3) (L.length + 1) (flatP (putP (s, .slice sa sl sc) L cap))) := hide (by
          have ho := unhide HO3
          rw [List.append_assoc] at ho
          have e : flatP (putP (s, .slice sa sl sc) L cap) = flatP (L.take cap) ++ ([.string s.name, .slice sa sl sc, .int .i64 s.type] ++ flatP (L.drop cap)) := by
            unfold putP
            rw [flatP_append]
            rfl
          rw [e]
          rw [unhide HDE]
          exact own_lowerE ho (unhide HW).size)
        have HBF := hide ((unhide HW).trans ((unhide HB3).mono (unhide HW).size))
        go_ret
        first
          | exact ⟨g3, c3, cap, rfl, unhide HQ, unhide HPUT, unhide HBF⟩
          | exact ⟨g3, c3, rfl, cap, unhide HQ, unhide HPUT, unhide HBF⟩
          | exact ⟨g3, c3, rfl, ⟨cap, unhide HQ, unhide HPUT⟩, unhide HBF⟩
      · have hkc : k < cap := by omega
        go_wp2
        go_region
        -- behind the loop
        have HFIN : Hid (∀ hk : k < L.length, ¬ key L[k].1 < key s) := hide (fun h => absurd h hp)
        have HPUT : Hid (putR s (L.map Prod.fst) = (putP (s, .slice sa sl sc) L k).map Prod.fst) := hide (by
          rw [putR_at (l := L.map Prod.fst) (k := k) (by simpa using hk) (fun j hj hjk => by rw [List.getElem_map]; exact unhide HK j (by simpa using hj) hjk) (fun hk2 => by rw [List.getElem_map]; exact unhide HFIN (by simpa using hk2))]
          unfold putP
          rw [List.map_append, List.map_cons, List.map_take, List.map_drop])
        have HTL : Hid ((flatP (L.take k)).length = k * 3) := hide (by rw [flatP_len, List.length_take]; omega)
        have HDL : Hid ((flatP (L.drop k)).length = (L.length - k) * 3) := hide (by rw [flatP_len, List.length_drop])
        have HND : Hid (∀ W' : World, Below W.heap.size W W' → ∀ j u, (flatP (L.drop k))[j]? = some u → W'.cell? ((⟨b, k * 3, none⟩ : Addr).add j) = some u) := hide (fun W' hb j u hu => by
          rw [← flatP_drop L k hk, List.getElem?_drop] at hu
          rw [Addr.add_lit]
          exact (hb.cell (p := ⟨b, k * 3 + j, none⟩) (by show b < _; have := unhide HWS; omega)).trans (((unhide HW).cell (p := ⟨b, k * 3 + j, none⟩) hbl).trans (unhide HC _ _ hu)))
        have HNT : Hid (∀ W' : World, Below (W.drewN (q + 1)).heap.size (W.drewN (q + 1)) W' → ∀ j u, (flatP (L.take k))[j]? = some u → W'.cell? ((⟨b, 0, none⟩ : Addr).add j) = some u) := hide (fun W' hb j u hu => by
          have hj : j < k * 3 := by
            rcases Nat.lt_or_ge j (k * 3) with x | x
            · exact x
            · rw [List.getElem?_eq_none (by rw [unhide HTL]; exact x)] at hu; cases hu
          rw [← flatP_take L k hk, List.getElem?_take_of_lt hj] at hu
          rw [Addr.add_lit, Nat.zero_add]
          exact (hb.cell (p := ⟨b, j, none⟩) (by show b < W.heap.size; have := unhide HWS; omega)).trans (((unhide HW).cell (p := ⟨b, j, none⟩) hbl).trans (unhide HC _ _ hu)))
        go_wp2_with (at_builtin; first | (refine wpList_append_own _ rfl _ _ 34 rfl W.heap.size 65 i0 (.agg #[.string ⟨#[]⟩, .slice none 0 0, .int .i64 0]) 3 48 Tryz.underlying34 hi hz0 hz1 hz2 rfl (by decide) (.slice (some ⟨W.heap.size, 0, none⟩) 0 0) 0 [] rfl (World.ownsRow_lit (W.drewN (q + 1)) #[] 0 (Nat.le_refl _) (Nat.zero_le _) rfl) ⟨b, 0, none⟩ k cap (flatP (L.take k)) rfl (unhide HTL) (fun j u hu => unhide HNT _ (below_newY2 _ _) j u hu) (flatP_one _ (fun p hp => unhide HL p (List.mem_of_mem_take hp))) (by unfold maxLen; omega) (by omega) (by simp) ?_; intro v1 w1 hown1 hgrow1 _; rw [Nat.zero_add, List.nil_append] at hown1; obtain ⟨o1, p1, rfl⟩ := own_sliceN hown1; have hb1 : Below W.heap.size W w1 := (below_drewN (Below.refl _ W) _).trans ((below_newY2 (W.drewN (q + 1)) (.cells #[] 65)).trans ((Below.refl _ _).grown hgrow1 (by simp) (fun x hx => by cases hx; exact Nat.le_refl _))); have n1 := (unhide N0).below hb1 (by have := unhide HWS; omega); have e0 := n1.cellAt (i := 0) rfl; have e1 := n1.cellAt (i := 1) rfl; have e2 := n1.cellAt (i := 2) rfl; have HO1 := hide hown1; have HB1 := hide hb1; clear n1 hb1 hown1 hgrow1) | (refine wpList_append_own _ rfl _ _ 34 rfl W.heap.size 65 i0 (.agg #[.string ⟨#[]⟩, .slice none 0 0, .int .i64 0]) 3 48 Tryz.underlying34 hi hz0 hz1 hz2 rfl (by decide) (.slice o1 k p1) k (flatP (L.take k)) rfl ((unhide HO1).alloc _) ⟨w1.heap.size, 0, none⟩ 1 1 [.string s.name, .slice sa sl sc, .int .i64 s.type] rfl rfl (three_newE w1 _ _ _ 65) (by simp [Value.oneCell']) (by unfold maxLen; omega) (by omega) (by have := (unhide HB1).size; simp; omega) ?_; intro v2 w2 hown2 hgrow2 _; obtain ⟨o2, p2, rfl⟩ := own_sliceN hown2; have hb2 : Below W.heap.size W w2 := (unhide HB1).trans ((((Below.refl _ w1).alloc (unhide HB1).size _)).trans ((Below.refl _ _).grown hgrow2 (by have := (unhide HB1).size; simp; omega) (fun x hx => ((unhide HO1).lt x hx).1))); have HO2 := hide hown2; have HB2 := hide hb2; clear hb2 hown2 hgrow2 e0 e1 e2) | (refine wpList_append_own _ rfl _ _ 34 rfl W.heap.size 65 i0 (.agg #[.string ⟨#[]⟩, .slice none 0 0, .int .i64 0]) 3 48 Tryz.underlying34 hi hz0 hz1 hz2 rfl (by decide) (.slice o2 (k + 1) p2) (k + 1) (flatP (L.take k) ++ [.string s.name, .slice sa sl sc, .int .i64 s.type]) rfl (unhide HO2) ⟨b, k * 3, none⟩ (L.length - k) (cap - k) (flatP (L.drop k)) rfl (unhide HDL) (fun j u hu => unhide HND _ (unhide HB2) j u hu) (flatP_one _ (fun p hp => unhide HL p (List.mem_of_mem_drop hp))) (by unfold maxLen; omega) (by omega) (unhide HB2).size ?_; intro v3 w3 hown3 hgrow3 _; have hb3 : Below W.heap.size W w3 := (unhide HB2).trans ((Below.refl _ _).grown hgrow3 (unhide HB2).size (fun x hx => ((unhide HO2).lt x hx).1)); rw [show k + 1 + (L.length - k) = L.length + 1 by omega] at hown3; obtain ⟨g3, c3, rfl⟩ := own_succE hown3; have HO3 := hide hown3; have HB3 := hide hb3; clear hb3 hown3 hgrow3))
        have HQ : Hid (w3.ownsRow w.heap.size 65 3 (.slice (some ⟨g3, 0, none⟩) (L.length + 1) c3) (L.length + 1) (flatP (putP (s, .slice sa sl sc) L k))) := hide (by
          have ho := unhide HO3
          rw [List.append_assoc] at ho
          have e : flatP (putP (s, .slice sa sl sc) L k) = flatP (L.take k) ++ ([.string s.name, .slice sa sl sc, .int .i64 s.type] ++ flatP (L.drop k)) := by
            unfold putP
            rw [flatP_append]
            rfl
          rw [e]
          exact own_lowerE ho (unhide HW).size)
        have HBF := hide ((unhide HW).trans ((unhide HB3).mono (unhide HW).size))
        go_ret
        first
          | exact ⟨g3, c3, k, rfl, unhide HQ, unhide HPUT, unhide HBF⟩
          | exact ⟨g3, c3, rfl, k, unhide HQ, unhide HPUT, unhide HBF⟩
          | exact ⟨g3, c3, rfl, ⟨k, unhide HQ, unhide HPUT⟩, unhide HBF⟩
end Go.Proofs.YtkiaidjkhhljhaaGreat

namespace Go.Proofs.YtkiaidjkhhljhaaGreat
open Go.RowKit Go.PlainAid

/-- A signature and its list of numbers, which can be read. -/
def GoodP (w : World) (p : TS × Value) : Prop := (p.1.name.size ≤ 8 ∧ p.1.args.length ≤ 4) ∧ ∃ lo, OwnI w lo w.heap.size p.2 p.1.args
theorem GoodP.kept {w w' : World} {p : TS × Value} (h : GoodP w p) (hb : Below w.heap.size w w') : GoodP w' p := by
  obtain ⟨h1, lo, h2⟩ := h
  exact ⟨h1, lo, h2.kept hb hb.size⟩
theorem GoodP.form {w : World} {p : TS × Value} (h : GoodP w p) : ∃ a l c, p.2 = .slice a l c := by
  obtain ⟨_, lo, a, cap, hv, _⟩ := h
  exact ⟨_, _, _, hv⟩
theorem putP_mem {p x : TS × Value} {L : List (TS × Value)} {k : Nat} (h : x ∈ putP p L k) : x = p ∨ x ∈ L := by
  unfold putP at h
  rcases List.mem_append.1 h with h | h
  · exact .inr (List.mem_of_mem_take h)
  · rcases List.mem_cons.1 h with h | h
    · exact .inl h
    · exact .inr (List.mem_of_mem_drop h)
theorem putP_len (p : TS × Value) (L : List (TS × Value)) (k : Nat) : (putP p L k).length = L.length + 1 := by
  unfold putP
  rw [List.length_append, List.length_cons, List.length_take, List.length_drop]
  omega
/-- A list of signatures as an answer that can be read. -/
def ReadL (w : World) (v : Value) (l : List TS) : Prop := ∃ (a : Option Addr) (cap : Nat), v = .slice a l.length cap ∧ IsSigs (IsSig w 0 w.heap.size) w 0 w.heap.size a l
theorem ReadL.of {w : World} {base g cap : Nat} {L : List (TS × Value)} (hrow : w.ownsRow base 65 3 (.slice (some ⟨g, 0, none⟩) L.length cap) L.length (flatP L)) (hg : ∀ p ∈ L, GoodP w p) : ReadL w (.slice (some ⟨g, 0, none⟩) L.length cap) (L.map Prod.fst) := by
  refine ⟨some ⟨g, 0, none⟩, cap, by rw [List.length_map], .inr ⟨g, 0, rfl, Nat.zero_le _, (hrow.lt g rfl).2, fun j hj => ?_⟩⟩
  have hj' : j < L.length := by simpa using hj
  have hc : ∀ i u, (flatP L)[i]? = some u → w.cell? ⟨g, i, none⟩ = some u := fun i u hu => by
    have := hrow.cells (g := g) rfl i u hu
    rwa [Addr.add_lit, Nat.zero_add] at this
  obtain ⟨h1, h2, h3⟩ := flatP_at L j hj'
  rw [Nat.zero_add]
  obtain ⟨hz, lo, ho⟩ := hg _ (List.getElem_mem hj')
  obtain ⟨a, c, hv, hI⟩ := ho.ints
  rw [List.getElem_map]
  exact ⟨_, _, _, hc _ _ h1, hc _ _ h2, hc _ _ h3, a, c, by rw [hv], ⟨by unfold maxLen; omega, by unfold maxLen; omega⟩, hI.same (fun _ _ _ => rfl) (Nat.zero_le _) (Nat.le_refl _)⟩

set_option maxRecDepth 100000 in
set_option maxHeartbeats 8000000 in
theorem FaceOfS_any (lo h : Nat) (v : Value) (m : TM) (w : World) (hM : IsMod w lo w.heap.size h v m) (hwt : m.wt ≤ 1048576) :
    Calls Tryz.prog 10 #[v] w fun r w' => ∃ v' : Value, r = .returned v' ∧ ReadL w' v' (faceL m) ∧ Below w.heap.size w w' := by
  have HOK := hide (fun (W : World) (hb : Below w.heap.size w W) => TreeOkS_any lo h v m W (IsMod.kept h hb hb.size _ _ hM) hwt)
  have HX : Hid (faceL m = if m.okB = true then putAll (pubs m.funs) else []) := hide rfl
  have HFN := hide (@ok_funs m)
  generalize faceL m = R at HX ⊢
  generalize m.okB = ok at HOK HX HFN
  obtain ⟨us, fs, mn⟩ := m
  obtain ⟨a1, a2, a3, k1, k2, k3, rfl, ⟨_, hz2', _, _, _⟩, _, q2, _⟩ := hM
  dsimp only at hz2' q2 HX HFN HOK
  have HFS := hide (fun (W : World) (hb : Below w.heap.size w W) => q2.kept hb hb.size)
  unfold maxLen at hz2'
  clear q2 hwt
  have NB : Hid (Blk ((w.alloc (.cells [Value.slice a1 us.length k1, Value.slice a2 fs.length k2, Value.slice a3 mn.length k3].toArray 27)).alloc (.cells #[] 65)) w.heap.size [Value.slice a1 us.length k1, Value.slice a2 fs.length k2, Value.slice a3 mn.length k3]) := hide ((Blk.new w [Value.slice a1 us.length k1, Value.slice a2 fs.length k2, Value.slice a3 mn.length k3] 27).old _ (by simp))
  have HW0 : Hid (Below w.heap.size w ((w.alloc (.cells [Value.slice a1 us.length k1, Value.slice a2 fs.length k2, Value.slice a3 mn.length k3].toArray 27)).alloc (.cells #[] 65))) := hide ((below_newG w (.cells [Value.slice a1 us.length k1, Value.slice a2 fs.length k2, Value.slice a3 mn.length k3].toArray 27)).alloc (by simp) _)
  have HR0 : Hid (((w.alloc (.cells [Value.slice a1 us.length k1, Value.slice a2 fs.length k2, Value.slice a3 mn.length k3].toArray 27)).alloc (.cells #[] 65)).ownsRow w.heap.size 65 3 (.slice (some ⟨w.heap.size + 1, 0, none⟩) 0 0) 0 []) := hide (by
    have := World.ownsRow_lit (base := w.heap.size) (e := 65) (size := 3) (w.alloc (.cells [Value.slice a1 us.length k1, Value.slice a2 fs.length k2, Value.slice a3 mn.length k3].toArray 27)) #[] 0 (by simp) (Nat.zero_le _) rfl
    rw [alloc_size] at this
    exact this)
  go_enter Tryz.func10, Tryz.ntmps10
  go_wp2_with fail
  refine (unhide HOK _ (unhide HW0)).mono ?_
  rintro r w2 ⟨rfl, hb2⟩
  have HB2 := hide ((unhide HW0).trans (hb2.mono (unhide HW0).size))
  have N2 := hide ((unhide NB).below hb2 (by simp; omega))
  have HR2 := hide (own_keptN (unhide HR0) hb2)
  have HS2 : Hid (w.heap.size < w2.heap.size) := hide (by have := hb2.size; rw [alloc_size, alloc_size] at this; omega)
  clear hb2 HOK HW0 NB HR0
  cases ok with
  | false =>
    have HRR : Hid (R = []) := hide (by rw [unhide HX]; rfl)
    clear HX HFN
    go_wp2
    go_ret
    refine ⟨_, rfl, ?_, unhide HB2⟩
    rw [unhide HRR]
    exact ⟨_, 0, rfl, .inl rfl⟩
  | true =>
  have HX2 : Hid (R = putAll (pubs fs)) := hide (by rw [unhide HX]; rfl)
  obtain ⟨h8, hfn, hpw⟩ := unhide HFN rfl
  have HFF := hide hfn
  have H8 := hide h8
  clear HX HFN hfn hpw
  go_wp2
  go_loopw [3, 4] (fun o i wr => ∃ (k g cap : Nat) (L : List (TS × Value)), k ≤ fs.length ∧ L.length ≤ k ∧ i = .int .i64 k ∧ o = .slice (some ⟨g, 0, none⟩) L.length cap ∧ Hid (wr.ownsRow w.heap.size 65 3 (.slice (some ⟨g, 0, none⟩) L.length cap) L.length (flatP L)) ∧ Hid (∀ p ∈ L, GoodP wr p) ∧ Hid (putAll (pubs (fs.take k)) = L.map Prod.fst) ∧ Hid (Below w2.heap.size w2 wr)) (fun _ i _ => fs.length - (intOf i).toNat)
  case atStart => exact ⟨0, w.heap.size + 1, 0, [], Nat.zero_le _, Nat.le_refl _, rfl, rfl, HR2, hide (fun p hp => by cases hp), hide rfl, hide (Below.refl _ _)⟩
  case round =>
    obtain ⟨k, g, cap, L, hk, hlk, rfl, rfl, HROW, HG, HP, HB⟩ := hrel
    have HWR := hide ((unhide HB2).trans ((unhide HB).mono (unhide HB2).size))
    have p1 := ((unhide N2).below (unhide HB) (unhide HS2)).cellAt (i := 1) rfl
    by_cases hp : k < fs.length
    · rcases unhide HFS _ (unhide HWR) with hq | ⟨b, off, rfl, hbl, hbn, hcs⟩
      · rw [hq] at hp; simp at hp
      obtain ⟨c0, c1, c2, c3, c4, c5, c6, c7, c8, d0, d1, d2, d3, d4, d5, d6, d7, d8, hr⟩ := hcs k hp
      have hfk := unhide HFF _ (List.getElem_mem hp)
      have htk : fs.take (k + 1) = fs.take k ++ [fs[k]] := List.take_succ_eq_append_getElem hp
      obtain ⟨x, hx⟩ : ∃ x, fs[k]'hp = x := ⟨_, rfl⟩
      rw [hx] at hr hfk htk
      have hsn := pubs_snoc (fs.take k) x
      rw [← htk] at hsn
      obtain ⟨xs, xp, xa, xl, xc, xt, xk, xm, xn, xd, ya, yl, yc, rfl, rfl, rfl, rfl, rfl, rfl, rfl, rfl, rfl⟩ := IsFun.form h hr
      have hxp : x.pub = xp := by
        obtain ⟨_, _, _, _, _, _, _, hv, _⟩ := hr
        simp only [Value.agg.injEq, Array.mk.injEq, List.cons.injEq, Value.string.injEq, Value.bool.injEq] at hv
        exact hv.2.1.symm
      rw [hxp] at hsn
      have HSN := hide hsn
      have HFO := hide (l3Of_any lo h _ x wr hr (by have := hfk.1; omega))
      have HZZ : Hid ((sigOf x).name.size ≤ 8 ∧ (sigOf x).args.length ≤ 4) := hide ⟨hfk.2.2, by have := hfk.1; simpa [sigOf] using this⟩
      clear hcs hr hx hfk htk hsn hxp
      cases xp with
      | false =>
        have HTT : Hid (putAll (pubs (fs.take (k + 1))) = L.map Prod.fst) := hide (by rw [unhide HSN]; simpa using unhide HP)
        clear HFO
        go_wp2
        go_roundw
        case rel => exact ⟨k + 1, g, cap, L, by omega, by omega, by go_num, rfl, HROW, HG, HTT, HB⟩
        case measure => simp [intOf]; omega
      | true =>
        have HTT : Hid (putAll (pubs (fs.take (k + 1))) = putR (sigOf x) (putAll (pubs (fs.take k)))) := hide (by rw [unhide HSN]; simp only [if_true]; exact putAll_snoc _ _)
        unfold OwnSig at HFO
        obtain ⟨s, hs⟩ : ∃ s, sigOf x = s := ⟨_, rfl⟩
        rw [hs] at HFO HTT HZZ
        clear hs
        go_wp2_with fail
        refine (unhide HFO).mono ?_
        rintro r w5 ⟨v5, rfl, ho5, hb5⟩
        obtain ⟨a5, c5', hv5, -⟩ := id ho5
        subst hv5
        have HO5 := hide ho5
        have HB5 := hide hb5
        have HPT := hide (l3Put_any w.heap.size g cap L s a5 s.args.length c5' w5 (own_keptN (unhide HROW) hb5) (fun p hp => (unhide HG p hp).form) (by have := unhide H8; omega))
        clear ho5 hb5 HFO d0 d1 d2 d3 d4 d5 d6 d7 d8 p1
        go_wp2_with fail
        refine (unhide HPT).mono ?_
        rintro r w6 ⟨g6, cap6, k6, rfl, ho6, hput, hb6⟩
        have HB6 := hide ((unhide HB).trans (((unhide HB5).trans (hb6.mono (unhide HB5).size)).mono (unhide HB).size))
        have HP6 : Hid (putAll (pubs (fs.take (k + 1))) = (putP (s, .slice a5 s.args.length c5') L k6).map Prod.fst) := hide (by rw [unhide HTT, unhide HP]; exact hput)
        have HG6 : Hid (∀ p ∈ putP (s, .slice a5 s.args.length c5') L k6, GoodP w6 p) := hide (fun p hp => by
          rcases putP_mem hp with rfl | hp
          · exact GoodP.kept ⟨unhide HZZ, _, unhide HO5⟩ hb6
          · exact ((unhide HG p hp).kept (unhide HB5)).kept hb6)
        have HR6 : Hid (w6.ownsRow w.heap.size 65 3 (.slice (some ⟨g6, 0, none⟩) (putP (s, .slice a5 s.args.length c5') L k6).length cap6) (putP (s, .slice a5 s.args.length c5') L k6).length (flatP (putP (s, .slice a5 s.args.length c5') L k6))) := hide (by
          rw [putP_len]
          exact own_lowerE ho6 (by have := (unhide HWR).size; have := (unhide HB5).size; omega))
        clear ho6 hput hb6 HPT
        go_wp2
        go_roundw
        case rel => exact ⟨k + 1, g6, cap6, putP (s, .slice a5 s.args.length c5') L k6, by omega, by rw [putP_len]; omega, by go_num, by rw [putP_len], HR6, HG6, HP6, HB6⟩
        case measure => simp [intOf]; omega
    · have hek : k = fs.length := by omega
      subst hek
      have HPP := unhide HP
      rw [List.take_of_length_le (Nat.le_refl _)] at HPP
      have HRR : Hid (R = L.map Prod.fst) := hide ((unhide HX2).trans HPP)
      have HRD := hide (ReadL.of (unhide HROW) (unhide HG))
      clear HPP
      go_wp2
      go_ret
      refine ⟨_, rfl, ?_, unhide HWR⟩
      rw [unhide HRR]
      exact unhide HRD
end Go.Proofs.YtkiaidjkhhljhaaGreat

namespace Go.Proofs.YtkiaidjkhhljhaaGreat
open Go.RowKit Go.PlainAid

theorem putR_len (s : TS) : ∀ l : List TS, (putR s l).length = l.length + 1
  | [] => rfl
  | t :: r => by
    rw [putR]
    split
    · rw [List.length_cons, putR_len s r, List.length_cons]
    · rfl
theorem putAll_len : ∀ (l acc : List TS), (l.foldl (fun acc s => putR s acc) acc).length = acc.length + l.length
  | [], acc => rfl
  | s :: r, acc => by rw [List.foldl_cons, putAll_len r, putR_len, List.length_cons]; omega
theorem putAll_mem : ∀ (l acc : List TS) (x : TS), x ∈ l.foldl (fun acc s => putR s acc) acc → x ∈ l ∨ x ∈ acc
  | [], acc, x, h => .inr h
  | s :: r, acc, x, h => by
    rcases putAll_mem r (putR s acc) x h with h | h
    · exact .inl (List.mem_cons_of_mem _ h)
    · rcases (putR_mem s x acc).1 h with rfl | h
      · exact .inl (by simp)
      · exact .inr h
/-- A face is small. -/
theorem faceL_small (m : TM) : (faceL m).length ≤ 8 ∧ ∀ s ∈ faceL m, s.name.size ≤ 8 ∧ s.args.length ≤ 4 := by
  unfold faceL
  split
  · next hok =>
    obtain ⟨h8, hfn, _⟩ := ok_funs hok
    refine ⟨?_, fun s hs => ?_⟩
    · unfold putAll
      rw [putAll_len]
      have := pubs_len m.funs
      simp
      omega
    · rcases putAll_mem _ _ _ hs with hs | hs
      · obtain ⟨f, hf, rfl⟩ := pubs_mem hs
        have := hfn f hf
        exact ⟨this.2.2, by have := this.1; simpa [sigOf] using this⟩
      · cases hs
  · exact ⟨Nat.zero_le _, fun s hs => by cases hs⟩
theorem smG_le : ∀ l : List TS, (∀ s ∈ l, s.args.length ≤ 4) → sm mG l ≤ 6 * l.length
  | [], _ => by simp [sm]
  | s :: r, h => by
    have h1 := smG_le r (fun x hx => h x (List.mem_cons_of_mem _ hx))
    have h2 := h s (by simp)
    have e : sm mG (s :: r) = (2 + s.args.length) + sm mG r := by simp [sm, mG]
    rw [e, List.length_cons]
    omega
theorem sm_boundG {α : Type} (f g : α → Nat) (h : ∀ x, f x ≤ 7 + 7 * g x) : ∀ l : List α, sm f l ≤ 7 * (l.length + (l.map g).sum)
  | [] => by simp [sm]
  | y :: t => by
    have h1 := sm_boundG f g h t
    have h2 := h y
    have e : sm f (y :: t) = f y + sm f t := by simp [sm]
    rw [e, List.map_cons, List.sum_cons, List.length_cons]
    omega
theorem mM_boundG (m : TM) : mM m ≤ 7 * m.wt := by
  have h1 := sm_boundG mF TF.wt (fun f => by
    have := nodes_wt f.body
    unfold mF TF.wt
    omega) m.funs
  have h2 := nodesL_wt m.main
  unfold mM TM.wt wtFuns
  omega
/-- A list of signatures that is marked. -/
def OwnM (w : World) (lo n : Nat) (v : Value) (l : List TS) : Prop :=
  (l = [] ∧ ∃ (a : Option Addr) (cap : Nat), v = .slice a 0 cap) ∨ ∃ (b cap : Nat) (vs : Nat → Value) (bs : Nat → Nat) (l' : List TS), v = .slice (some ⟨b, 0, none⟩) l.length cap ∧ LL w b vs bs l' ∧ l'.length = l.length ∧ (∀ i (hi : i < l'.length), l'[i] = mkAt 1 l i) ∧ Apart lo n b bs l.length
theorem OwnL.move {w w' : World} {lo n : Nat} {v : Value} {l : List TS} (h : OwnL w lo n v l) (hb : ∀ x, lo ≤ x → x < n → w'.heap[x]? = w.heap[x]?) : OwnL w' lo n v l := by
  rcases h with h | ⟨b, cap, vs, bs, h1, h2, h3⟩
  · exact .inl h
  · exact .inr ⟨b, cap, vs, bs, h1, h2.move h3 (Nat.le_refl _) hb, h3⟩
theorem OwnM.move {w w' : World} {lo n : Nat} {v : Value} {l : List TS} (h : OwnM w lo n v l) (hb : ∀ x, lo ≤ x → x < n → w'.heap[x]? = w.heap[x]?) : OwnM w' lo n v l := by
  rcases h with h | ⟨b, cap, vs, bs, l', h1, h2, h3, h4, h5⟩
  · exact .inl h
  · exact .inr ⟨b, cap, vs, bs, l', h1, h2.move h5 (by omega) hb, h3, h4, h5⟩
theorem OwnL.sigs {w : World} {lo n : Nat} {v : Value} {l : List TS} (h : OwnL w lo n v l) (hn : n ≤ w.heap.size) (hs : ∀ s ∈ l, s.name.size ≤ 8 ∧ s.args.length ≤ 4) : ∃ (a : Option Addr) (cap : Nat), v = .slice a l.length cap ∧ IsSigs (IsSig w lo w.heap.size) w lo w.heap.size a l := by
  rcases h with ⟨rfl, a, cap, hv⟩ | ⟨b, cap, vs, bs, h1, h2, h3⟩
  · exact ⟨a, cap, hv, .inl rfl⟩
  · exact ⟨_, cap, h1, h2.sigs h3 (Nat.le_refl _) hn (fun s hs' => by have := hs s hs'; unfold maxLen; omega)⟩

set_option maxHeartbeats 1000000 in
theorem markNil (a : Option Addr) (cap : Nat) (w : World) : Calls Tryz.prog 19 #[.slice a 0 cap, .int .i64 1] w fun e w' => e = .returned (.int .i64 1) ∧ w' = w := by
  go_enter Tryz.func19, Tryz.ntmps19
  go_wp2
  go_loopw [1, 5] (fun kk i wr => i = .int .i64 0 ∧ kk = .int .i64 1 ∧ w = wr) (fun _ _ _ => 0)
  case atStart => exact ⟨rfl, rfl, rfl⟩
  case round =>
    obtain ⟨rfl, rfl, rfl⟩ := hrel
    go_wp2
    go_ret
    exact ⟨rfl, rfl⟩
set_option maxHeartbeats 1000000 in
theorem heldNil (a : Option Addr) (cap : Nat) (w : World) : Calls Tryz.prog 20 #[.slice a 0 cap, .int .i64 1] w fun e w' => e = .returned (.int .i64 1) ∧ w' = w := by
  go_enter Tryz.func20, Tryz.ntmps20
  go_wp2
  go_loopw [1, 5] (fun kk i wr => i = .int .i64 0 ∧ kk = .int .i64 1 ∧ w = wr) (fun _ _ _ => 0)
  case atStart => exact ⟨rfl, rfl, rfl⟩
  case round =>
    obtain ⟨rfl, rfl, rfl⟩ := hrel
    go_wp2
    go_ret
    exact ⟨rfl, rfl⟩
theorem markOwn (lo n : Nat) (v : Value) (l : List TS) (w : World) (h : OwnL w lo n v l) (hn : n ≤ w.heap.size) (hlo : lo ≤ n) (hl : l.length ≤ 8) (hs : ∀ s ∈ l, s.args.length ≤ 4) :
    Calls Tryz.prog 19 #[v, .int .i64 1] w fun e w' => e = .returned (.int .i64 ((1 + sm mG l : Nat) : Int)) ∧ OwnM w' lo n v l ∧ Below lo w w' ∧ ∀ x, n ≤ x → x < w.heap.size → w'.heap[x]? = w.heap[x]? := by
  rcases h with ⟨rfl, a, cap, rfl⟩ | ⟨b, cap, vs, bs, rfl, h2, h3⟩
  · refine (markNil a cap w).mono ?_
    rintro e w' ⟨rfl, rfl⟩
    exact ⟨rfl, .inl ⟨rfl, a, cap, rfl⟩, Below.refl _ _, fun _ _ _ => rfl⟩
  · have hb := smG_le l hs
    refine (markL_any lo n b cap vs bs l 1 w h2 h3 hn (Nat.le_refl _) (by omega) (by omega) hlo).mono ?_
    rintro e w' ⟨l', rfl, g1, g2, g3, g4, g5⟩
    exact ⟨rfl, .inr ⟨b, cap, vs, bs, l', rfl, g1, g2, g3, h3⟩, g4, g5⟩
theorem heldOwn (lo n : Nat) (v : Value) (l : List TS) (w : World) (h : OwnM w lo n v l) (hn : n ≤ w.heap.size) (hl : l.length ≤ 8) (hs : ∀ s ∈ l, s.args.length ≤ 4) :
    Calls Tryz.prog 20 #[v, .int .i64 1] w fun e w' => e = .returned (.int .i64 ((1 + sm mG l : Nat) : Int)) ∧ Below w.heap.size w w' := by
  rcases h with ⟨rfl, a, cap, rfl⟩ | ⟨b, cap, vs, bs, l', rfl, h2, h3, h4, h5⟩
  · refine (heldNil a cap w).mono ?_
    rintro e w' ⟨rfl, rfl⟩
    exact ⟨rfl, Below.refl _ _⟩
  · have hb := smG_le l hs
    exact heldL_any lo n b cap vs bs l l' 1 w h2 h3 h4 h5 hn (Nat.le_refl _) (by omega) (by omega)
theorem Mk.otherG {lo n : Nat} {w w' : World} (h : Mk lo n w w') {b : Nat} (hb : b < w.heap.size) (ho : b < lo ∨ n ≤ b) : w'.heap[b]? = w.heap[b]? := by
  rcases ho with ho | ho
  · exact h.low.block b ho
  · exact h.high b ho hb
theorem Blk.atG {w w' : World} {B : Nat} {C : List Value} (h : Blk w B C) (hb : w'.heap[B]? = w.heap[B]?) : Blk w' B C :=
  ⟨fun i => (World.cell?_of_block (w := w) (a := ⟨B, i, none⟩) hb).trans (h.1 i), fun i => (World.frozen?_of_block (w := w) (a := ⟨B, i, none⟩) hb).trans (h.2 i)⟩
/-- What the law keeps in memory. -/
structure F2 (W0 : World) (h3 X l5 h5 : Nat) (a3 : Option Addr) (cX : List Value) (l : List TS) (Own : World → Prop) (W : World) : Prop where
  base : Below W0.heap.size W0 W
  rd : IsSigs (IsSig W 0 h3) W 0 h3 a3 l
  x : Blk W X cX
  own : Own W
  sz3 : h3 ≤ W.heap.size
  szX : X < W.heap.size
  sz5 : h5 ≤ W.heap.size
theorem F2.move {W0 W W' : World} {h3 X l5 h5 : Nat} {a3 : Option Addr} {cX : List Value} {l : List TS} {Own : World → Prop} (h : F2 W0 h3 X l5 h5 a3 cX l Own W) (hb : Below W0.heap.size W W') (hr : ∀ b, b < h3 → W'.heap[b]? = W.heap[b]?) (hX : W'.heap[X]? = W.heap[X]?) (ho : Own W') : F2 W0 h3 X l5 h5 a3 cX l Own W' := by
  have hs := hb.size
  have hsame : Same 0 h3 W W' := fun b _ hb => hr b hb
  exact ⟨h.base.trans hb, h.rd.mono (fun v e he => IsSig.same hsame (Nat.le_refl _) (Nat.le_refl _) v e he) hsame (Nat.le_refl _) (Nat.le_refl _), h.x.atG hX, ho, Nat.le_trans h.sz3 hs, Nat.lt_of_lt_of_le h.szX hs, Nat.le_trans h.sz5 hs⟩
theorem F2.kept {W0 W W' : World} {h3 X l5 h5 : Nat} {a3 : Option Addr} {cX : List Value} {l : List TS} {Own : World → Prop} (h : F2 W0 h3 X l5 h5 a3 cX l Own W) (hO : ∀ W W' : World, (∀ x, l5 ≤ x → x < h5 → W'.heap[x]? = W.heap[x]?) → Own W → Own W') (hb : Below W.heap.size W W') : F2 W0 h3 X l5 h5 a3 cX l Own W' :=
  h.move (hb.mono h.base.size) (fun b h1 => hb.block b (Nat.lt_of_lt_of_le h1 h.sz3)) (hb.block _ h.szX) (hO W W' (fun x _ h2 => hb.block x (Nat.lt_of_lt_of_le h2 h.sz5)) h.own)
theorem F2.read {W0 W : World} {h3 X l5 h5 : Nat} {a3 : Option Addr} {cX : List Value} {l : List TS} {Own : World → Prop} (h : F2 W0 h3 X l5 h5 a3 cX l Own W) : IsSigs (IsSig W 0 W.heap.size) W 0 W.heap.size a3 l :=
  h.rd.mono (fun v e he => IsSig.same (fun _ _ _ => rfl) (Nat.le_refl _) h.sz3 v e he) (fun _ _ _ => rfl) (Nat.le_refl _) h.sz3
theorem IsMod.formG {w : World} {lo n h : Nat} {v : Value} {m : TM} (hM : IsMod w lo n h v m) : ∃ (a1 a2 a3 : Option Addr) (l1 l2 l3 k1 k2 k3 : Nat), v = .agg #[.slice a1 l1 k1, .slice a2 l2 k2, .slice a3 l3 k3] := by
  obtain ⟨a1, a2, a3, k1, k2, k3, hv, _⟩ := hM
  exact ⟨_, _, _, _, _, _, _, _, _, hv⟩
theorem left_fitsG {l : Int} {n : Nat} (h : ¬ leftI l n < 0) : (n : Int) ≤ l := by
  by_cases g : (n : Int) ≤ l
  · exact g
  · rw [left_no (by omega)] at h; omega
end Go.Proofs.YtkiaidjkhhljhaaGreat

namespace Go.Proofs.YtkiaidjkhhljhaaGreat
open Go.RowKit Go.PlainAid

set_option maxRecDepth 100000 in
set_option maxHeartbeats 16000000 in
theorem fnExactFaceOf_walk (h : Nat) (v : Value) (m : TM) (w : World) (hM : IsMod w 0 w.heap.size h v m) :
    Calls Tryz.prog 5 #[v] w fun e w' => e = .returned (.bool true) ∧ Below w.heap.size w w' := by
  obtain ⟨a1, a2, a3, l1, l2, l3, k1, k2, k3, rfl⟩ := hM.formG
  have HMM := hide hM
  have NB := hide (Blk.new w [.slice a1 l1 k1, .slice a2 l2 k2, .slice a3 l3 k3] 47)
  have HW := hide (below_newG w (.cells [.slice a1 l1 k1, .slice a2 l2 k2, .slice a3 l3 k3].toArray 47))
  have HSZ := hide (szTreeMod_any 0 h _ m (w.alloc (.cells [.slice a1 l1 k1, .slice a2 l2 k2, .slice a3 l3 k3].toArray 47)) 1048576 (IsMod.kept h (below_newG _ _) (by simp) _ _ hM) (by omega) (by omega))
  have HWN : Hid (w.heap.size < (w.alloc (.cells [.slice a1 l1 k1, .slice a2 l2 k2, .slice a3 l3 k3].toArray 47)).heap.size) := hide (by simp)
  clear hM
  go_enter Tryz.func5, Tryz.ntmps5
  go_wp2_with fail
  refine (unhide HSZ).mono ?_
  clear HSZ
  obtain ⟨W0, hW0⟩ : ∃ W0, W0 = (w.alloc (.cells [.slice a1 l1 k1, .slice a2 l2 k2, .slice a3 l3 k3].toArray 47)) := ⟨_, rfl⟩
  rw [← hW0] at NB HW HWN ⊢
  clear hW0
  rintro r w1 ⟨rfl, hb1⟩
  have HB1 := hide hb1
  clear hb1
  by_cases hlt : leftI 1048576 m.wt < 0
  · generalize leftI 1048576 m.wt = L at hlt
    go_wp2
    go_ret
    exact ⟨rfl, (unhide HW).trans ((unhide HB1).mono (unhide HW).size)⟩
  have hwt : m.wt ≤ 1048576 := by have := left_fitsG hlt; omega
  generalize leftI 1048576 m.wt = Lm at hlt
  have HTM := hide (fun (W : World) (hb : Below W0.heap.size W0 W) => toTreeMod_anyZ 0 h _ m W (IsMod.kept h ((unhide HW).trans (hb.mono (unhide HW).size)) ((unhide HW).trans (hb.mono (unhide HW).size)).size _ _ (unhide HMM)) hwt)
  have HSP := hide (fun (lo : Nat) (v : Value) (W : World) (g1 : IsMod W lo W.heap.size h v m) => FaceOfS_any lo h v m W g1 hwt)
  have HIM := hide (fun (lo : Nat) (v : Value) (W : World) (g1 : IsMod W lo W.heap.size h v m) => FaceOfI_any lo h v m W g1)
  have HMB : Hid (mM m ≤ 7340032) := hide (by have := mM_boundG m; omega)
  have HSM := hide (faceL_small m)
  obtain ⟨l, hl⟩ : ∃ l, faceL m = l := ⟨_, rfl⟩
  rw [hl] at HSP HIM HSM
  clear hl hwt HMM
  have HA4 : Hid (∀ s ∈ l, s.args.length ≤ 4) := hide (fun s hs => ((unhide HSM).2 s hs).2)
  have HEQ := hide (fun (W : World) (lo : Nat) (a a' : Option Addr) (c c' : Nat) (g1 : IsSigs (IsSig W lo W.heap.size) W lo W.heap.size a l) (g2 : IsSigs (IsSig W 0 W.heap.size) W 0 W.heap.size a' l) => eqTreeSigS_of lo 0 (eqFaceSig_any lo 0) a a' c c' l W (by have := (unhide HSM).1; unfold maxLen; omega) g1 g2)
  have nb := (unhide NB).below (unhide HB1) (unhide HWN)
  have p0 := nb.cellAt (i := 0) rfl
  have p1 := nb.cellAt (i := 1) rfl
  have p2 := nb.cellAt (i := 2) rfl
  clear nb
  go_wp2_with fail
  refine (unhide HTM _ (unhide HB1)).mono ?_
  rintro r w2 ⟨v2, rfl, hM2, hb2⟩
  have HB2 := hide ((unhide HB1).trans (hb2.toBelow.mono (unhide HB1).size))
  have HM2 := hide hM2
  clear hb2 hM2 HB1 p0 p1 p2
  go_wp2_with fail
  refine (unhide HSP _ _ _ (unhide HM2)).mono ?_
  rintro r w3 ⟨v3, rfl, hr3, hb3⟩
  have HB3 := hide ((unhide HB2).trans (hb3.mono (unhide HB2).size))
  obtain ⟨b3, c3, rfl, hr3⟩ := hr3
  have HR3 := hide hr3
  clear hr3 hb3 HB2 HM2
  have nb := (unhide NB).below (unhide HB3) (unhide HWN)
  have p0 := nb.cellAt (i := 0) rfl
  have p1 := nb.cellAt (i := 1) rfl
  have p2 := nb.cellAt (i := 2) rfl
  clear nb
  go_wp2_with fail
  refine (unhide HTM _ (unhide HB3)).mono ?_
  rintro r w4 ⟨v4, rfl, hM4, hb4⟩
  obtain ⟨e1, e2, e3, f1, f2, f3, g1, g2, g3, rfl⟩ := hM4.formG
  have hs4 : w3.heap.size ≤ w4.heap.size := hb4.size
  have HFX4 : Hid (Fr w4 w3.heap.size w4.heap.size) := hide (fun b j hb _ => hb4.fr b j hb)
  have HR4 := hide ((unhide HR3).kept hb4.toBelow (Nat.le_refl _))
  have HB4 := hide ((unhide HB3).trans (hb4.toBelow.mono (unhide HB3).size))
  have HB4' := hide ((unhide HB4).alloc (unhide HB4).size (.cells #[.slice e1 f1 g1, .slice e2 f2 g2, .slice e3 f3 g3] 27))
  have NX := hide (Blk.new w4 [.slice e1 f1 g1, .slice e2 f2 g2, .slice e3 f3 g3] 27)
  have HM4 := hide hM4
  have HM4' : Hid (IsMod (w4.alloc (.cells #[.slice e1 f1 g1, .slice e2 f2 g2, .slice e3 f3 g3] 27)) w3.heap.size (w4.alloc (.cells #[.slice e1 f1 g1, .slice e2 f2 g2, .slice e3 f3 g3] 27)).heap.size h (.agg #[.slice e1 f1 g1, .slice e2 f2 g2, .slice e3 f3 g3]) m) := hide (IsMod.kept h (below_newG w4 (.cells #[.slice e1 f1 g1, .slice e2 f2 g2, .slice e3 f3 g3] 27)) (by simp) _ _ hM4)
  have hs3 : W0.heap.size ≤ w3.heap.size := (unhide HB3).size
  have x0 : (w4.alloc (.cells #[.slice e1 f1 g1, .slice e2 f2 g2, .slice e3 f3 g3] 27)).cell? ⟨w4.heap.size, 0, none⟩ = some (.slice e1 f1 g1) := (unhide NX).cellAt (i := 0) rfl
  clear hb4 hM4 HR3 HB3 p0 p1 p2
  go_wp2_with fail
  refine (unhide HIM _ _ _ (unhide HM4')).mono ?_
  rintro r w5 ⟨v5, rfl, ho5, hb5⟩
  have k45 : ∀ b, b < w4.heap.size → w5.heap[b]? = w4.heap[b]? := fun b hb => (hb5.block b (by rw [alloc_size]; omega)).trans (Below.heap_alloc _ _ _ hb)
  have hs5 : w4.heap.size + 1 ≤ w5.heap.size := by have := hb5.size; rw [alloc_size] at this; exact this
  have hF5 : F2 W0 w3.heap.size w4.heap.size (w4.heap.size + 1) w5.heap.size b3 [.slice e1 f1 g1, .slice e2 f2 g2, .slice e3 f3 g3] l (fun W => OwnL W (w4.heap.size + 1) w5.heap.size v5 l) w5 := by
    have hsame : Same 0 w3.heap.size w4 w5 := fun b _ hb => k45 b (by omega)
    refine ⟨(unhide HB4').trans (hb5.mono (unhide HB4').size), (unhide HR4).mono (fun v e he => IsSig.same hsame (Nat.le_refl _) (Nat.le_refl _) v e he) hsame (Nat.le_refl _) (Nat.le_refl _), (unhide NX).below hb5 (by simp), ?_, by omega, by omega, Nat.le_refl _⟩
    rw [alloc_size] at ho5
    exact ho5
  have HM5 : Hid (IsMod w5 w3.heap.size w4.heap.size h (.agg #[.slice e1 f1 g1, .slice e2 f2 g2, .slice e3 f3 g3]) m) := hide (IsMod.same h (fun b _ hb => k45 b hb) (Nat.le_refl _) (Nat.le_refl _) _ _ (unhide HM4))
  have HFX5 : Hid (Fr w5 w3.heap.size w4.heap.size) := hide (fun b j hb hb2 => (World.frozen?_of_block (w := w4) (a := ⟨b, j, none⟩) (k45 b hb2)).trans (unhide HFX4 b j hb hb2))
  have HF5 := hide hF5
  have HS := hide (And.intro hs3 (And.intro hs4 hs5))
  have HKL : Hid (∀ W W' : World, (∀ x, w4.heap.size + 1 ≤ x → x < w5.heap.size → W'.heap[x]? = W.heap[x]?) → OwnL W (w4.heap.size + 1) w5.heap.size v5 l → OwnL W' (w4.heap.size + 1) w5.heap.size v5 l) := hide (fun W W' hb ho => ho.move hb)
  have HKM : Hid (∀ W W' : World, (∀ x, w4.heap.size + 1 ≤ x → x < w5.heap.size → W'.heap[x]? = W.heap[x]?) → OwnM W (w4.heap.size + 1) w5.heap.size v5 l → OwnM W' (w4.heap.size + 1) w5.heap.size v5 l) := hide (fun W W' hb ho => ho.move hb)
  obtain ⟨b5, c5, hv5, -⟩ := hF5.own.sigs hF5.sz5 (unhide HSM).2
  subst hv5
  clear hF5 ho5 hb5 k45 HB4 HB4' NX HR4 HM4 HM4' HFX4 x0
  have HE5 := hide (fun (W : World) (hO : OwnL W (w4.heap.size + 1) w5.heap.size (.slice b5 l.length c5) l) (hn : w5.heap.size ≤ W.heap.size) (g2 : IsSigs (IsSig W 0 W.heap.size) W 0 W.heap.size b3 l) => by
    obtain ⟨a', c', hv', hI⟩ := hO.sigs hn (unhide HSM).2
    cases hv'
    exact unhide HEQ W _ _ _ c5 c3 hI g2)
  go_wp2_with fail
  refine (unhide HE5 _ (unhide HF5).own (unhide HF5).sz5 (unhide HF5).read).mono ?_
  rintro r w6 ⟨rfl, hb6⟩
  have HF6 := hide ((unhide HF5).kept (unhide HKL) hb6)
  have hs6 : w5.heap.size ≤ w6.heap.size := hb6.size
  have hsM : Same w3.heap.size w4.heap.size w5 w6 := fun b _ hb => hb6.block b (by have := unhide HS; omega)
  have HM6 := hide (IsMod.same h hsM (Nat.le_refl _) (Nat.le_refl _) _ _ (unhide HM5))
  have HFX6 : Hid (Fr w6 w3.heap.size w4.heap.size) := hide (fun b j hb hb2 => (World.frozen?_of_block (w := w5) (a := ⟨b, j, none⟩) (hsM b hb hb2)).trans (unhide HFX5 b j hb hb2))
  have HS6 := hide hs6
  clear hb6 hsM HF5 HM5 HFX5 hs6 hs3 hs4 hs5
  have nb := (unhide NB).below (unhide HF6).base (unhide HWN)
  have p0 := nb.cellAt (i := 0) rfl
  have p1 := nb.cellAt (i := 1) rfl
  have p2 := nb.cellAt (i := 2) rfl
  clear nb
  have x0 := (unhide HF6).x.cellAt (i := 0) rfl
  have x1 := (unhide HF6).x.cellAt (i := 1) rfl
  have x2 := (unhide HF6).x.cellAt (i := 2) rfl
  have HX6 := hide (fun (W : World) (hb : Below w6.heap.size w6 W) => (unhide HF6).x.below hb (unhide HF6).szX)
  have HTM6 := hide (fun (W : World) (hb : Below w6.heap.size w6 W) => unhide HTM W ((unhide HF6).base.trans (hb.mono (unhide HF6).base.size)))
  have HEM6 := hide (fun (W : World) (v : Value) (lo : Nat) (hb : Below w6.heap.size w6 W) (hM : IsMod W lo W.heap.size h v m) => eqTreeMod_any w3.heap.size lo h h (.agg #[.slice e1 f1 g1, .slice e2 f2 g2, .slice e3 f3 g3]) v m W (IsMod.same h (fun b _ hb2 => hb.block b (by have := unhide HS; have := unhide HS6; omega)) (Nat.le_refl _) (by have := unhide HS; have := unhide HS6; have := hb.size; omega) _ _ (unhide HM6)) hM)
  go_upto_region 10 with fail
  go_cut [31] from 27 to 30 (fun s wc => s = .bool false ∧ Hid (Below w6.heap.size w6 wc))
  case first =>
    go_region_with (first | (go_at_call 17; refine (unhide HTM6 _ (Below.refl _ _).drew).mono ?_; rintro r wA ⟨vA, rfl, hMA, hbA⟩; have kA : Below w6.heap.size w6 wA := (Below.refl _ w6).drew.trans hbA.toBelow; have nA := unhide HX6 _ kA; have y0 := nA.cellAt (i := 0) rfl; have y1 := nA.cellAt (i := 1) rfl; have y2 := nA.cellAt (i := 2) rfl) | (go_at_call 13; refine (unhide HEM6 _ _ _ kA hMA).mono ?_; rintro r wB ⟨rfl, hbB⟩))
    all_goals (
      go_wp2_with fail
      go_meet
      exact ⟨rfl, hide (kA.trans (hbB.mono kA.size))⟩)
  case rest =>
  obtain ⟨rfl, HKC⟩ := hcut
  have HF7 := hide ((unhide HF6).kept (unhide HKL) (unhide HKC))
  have hsM : Same w3.heap.size w4.heap.size w6 wc := fun b _ hb => (unhide HKC).block b (by have := unhide HS; have := unhide HS6; omega)
  have HM7 := hide (IsMod.same h hsM (Nat.le_refl _) (Nat.le_refl _) _ _ (unhide HM6))
  have HFX7 : Hid (Fr wc w3.heap.size w4.heap.size) := hide (fun b j hb hb2 => (World.frozen?_of_block (w := w6) (a := ⟨b, j, none⟩) (hsM b hb hb2)).trans (unhide HFX6 b j hb hb2))
  have HS7 : Hid (w5.heap.size ≤ wc.heap.size) := hide (Nat.le_trans (unhide HS6) (unhide HKC).size)
  clear HKC hsM HF6 HM6 HFX6 HX6 HTM6 HEM6 p0 p1 p2 x0 x1 x2
  have x0 := (unhide HF7).x.cellAt (i := 0) rfl
  have x1 := (unhide HF7).x.cellAt (i := 1) rfl
  have x2 := (unhide HF7).x.cellAt (i := 2) rfl
  go_wp2_with fail
  refine (markMod_any w3.heap.size w4.heap.size h _ m 1 wc (unhide HM7) (unhide HFX7) (by have := unhide HS; have := unhide HS7; omega) (by have := unhide HS; omega) (by omega) (by have := unhide HMB; omega)).mono ?_
  rintro r w8 ⟨k8, rfl, hk8, hk8', hm8⟩
  have HF8 : Hid (F2 W0 w3.heap.size w4.heap.size (w4.heap.size + 1) w5.heap.size b3 [.slice e1 f1 g1, .slice e2 f2 g2, .slice e3 f3 g3] l (fun W => OwnL W (w4.heap.size + 1) w5.heap.size (.slice b5 l.length c5) l) w8) := hide ((unhide HF7).move (hm8.low.mono (by have := unhide HS; omega)) (fun b hb => hm8.otherG (Nat.lt_of_lt_of_le hb (unhide HF7).sz3) (.inl hb)) (hm8.otherG (unhide HF7).szX (.inr (Nat.le_refl _))) (unhide HKL wc w8 (fun x g1 g2 => hm8.otherG (by have := unhide HS7; omega) (.inr (by omega))) (unhide HF7).own))
  have hk8n : ¬ ((k8 : Nat) : Int) < 0 := by omega
  clear hm8 HF7 HM7 HFX7 HS7 x0 x1 x2 hk8 hk8'
  go_wp2_with fail
  refine (unhide HE5 _ (unhide HF8).own (unhide HF8).sz5 (unhide HF8).read).mono ?_
  rintro r w9 ⟨rfl, hb9⟩
  have HF9 := hide ((unhide HF8).kept (unhide HKL) hb9)
  clear hb9 HF8
  go_wp2_with fail
  refine (markOwn (w4.heap.size + 1) w5.heap.size _ l w9 (unhide HF9).own (unhide HF9).sz5 (by have := unhide HS; omega) (unhide HSM).1 (unhide HA4)).mono ?_
  rintro r wA ⟨rfl, hoA, hbA, hcA⟩
  have HFA : Hid (F2 W0 w3.heap.size w4.heap.size (w4.heap.size + 1) w5.heap.size b3 [.slice e1 f1 g1, .slice e2 f2 g2, .slice e3 f3 g3] l (fun W => OwnM W (w4.heap.size + 1) w5.heap.size (.slice b5 l.length c5) l) wA) := hide (by
    have h1 := unhide HS
    have hF := unhide HF9
    have hs := hbA.size
    have hsame : Same 0 w3.heap.size w9 wA := fun b _ hb => hbA.block b (by omega)
    exact ⟨hF.base.trans (hbA.mono (by omega)), hF.rd.mono (fun v e he => IsSig.same hsame (Nat.le_refl _) (Nat.le_refl _) v e he) hsame (Nat.le_refl _) (Nat.le_refl _), hF.x.atG (hbA.block _ (by omega)), hoA, Nat.le_trans hF.sz3 hs, Nat.lt_of_lt_of_le hF.szX hs, Nat.le_trans hF.sz5 hs⟩)
  obtain ⟨Q, hQ⟩ : ∃ Q, 1 + sm mG l = Q := ⟨_, rfl⟩
  have HH := hide (fun (W : World) (hO : OwnM W (w4.heap.size + 1) w5.heap.size (.slice b5 l.length c5) l) (hn : w5.heap.size ≤ W.heap.size) => heldOwn (w4.heap.size + 1) w5.heap.size _ l W hO hn (unhide HSM).1 (unhide HA4))
  rw [hQ] at HH ⊢
  have hq2 : (((Q : Nat) : Int) != ((Q : Nat) : Int)) = false := by simp
  have hq3 : ¬ ((Q : Nat) : Int) < 0 := by omega
  clear hoA hbA hcA HF9 hQ
  go_wp2_with fail
  refine (unhide HH _ (unhide HFA).own (unhide HFA).sz5).mono ?_
  rintro r wB ⟨rfl, hbB⟩
  have HFB := hide ((unhide HFA).kept (unhide HKM) hbB)
  clear hbB HFA
  have nb := (unhide NB).below (unhide HFB).base (unhide HWN)
  have p0 := nb.cellAt (i := 0) rfl
  have p1 := nb.cellAt (i := 1) rfl
  have p2 := nb.cellAt (i := 2) rfl
  clear nb
  go_wp2_with fail
  refine (unhide HTM _ (unhide HFB).base).mono ?_
  rintro r wC ⟨vC, rfl, hMC, hbC⟩
  have HFC := hide ((unhide HFB).kept (unhide HKM) hbC.toBelow)
  have HMC := hide hMC
  clear hbC hMC HFB p0 p1 p2
  go_wp2_with fail
  refine (unhide HIM _ _ _ (unhide HMC)).mono ?_
  rintro r wD ⟨vD, rfl, hoD, hbD⟩
  have HFD := hide ((unhide HFC).kept (unhide HKM) hbD)
  obtain ⟨aD, cD, hvD, hID⟩ := hoD.sigs (Nat.le_refl _) (unhide HSM).2
  subst hvD
  have HID := hide hID
  clear hbD hoD hID HFC HMC
  go_wp2_with fail
  refine (unhide HEQ _ _ _ _ _ _ (unhide HID) (unhide HFD).read).mono ?_
  rintro r wE ⟨rfl, hbE⟩
  have HFE := hide ((unhide HFD).kept (unhide HKM) hbE)
  clear hbE HFD HID
  go_wp2_with fail
  refine (unhide HH _ (unhide HFE).own (unhide HFE).sz5).mono ?_
  rintro r wF ⟨rfl, hbF⟩
  have HFF := hide ((unhide HFE).kept (unhide HKM) hbF)
  clear hbF HFE
  go_wp2
  go_ret
  exact ⟨rfl, (unhide HW).trans ((unhide HFF).base.mono (unhide HW).size)⟩
end Go.Proofs.YtkiaidjkhhljhaaGreat
