/- The walk of spec.l3Put: a line is put where it belongs. Conditions: the list is one that a call made; it can be read. -/
import Derived.Test.YtffabnmgcicpiaaGreatGc
import Derived.Laws.OwnMore
namespace Go.Proofs.YtffabnmgcicpiaaGreat
open Go.RowKit Go.PlainAid

theorem below_newY2 (w : World) (o : Obj) : Below w.heap.size w (w.alloc o) := (Below.refl _ _).alloc (Nat.le_refl _) _
/-- The cells of signatures with their lists of numbers. -/
def cellsP (p : TS × Value) : List Value := [.string p.1.name, p.2, .int .i64 p.1.type]
def flatP (L : List (TS × Value)) : List Value := L.flatMap cellsP
theorem flatP_len (L : List (TS × Value)) : (flatP L).length = L.length * 3 := by
  unfold flatP
  rw [List.length_flatMap]
  have : L.map (fun a => (cellsP a).length) = List.replicate L.length 3 := by
    rw [List.eq_replicate_iff]
    exact ⟨by simp, fun x hx => by obtain ⟨p, _, rfl⟩ := List.mem_map.1 hx; rfl⟩
  rw [this]
  simp
theorem flatP_append (L M : List (TS × Value)) : flatP (L ++ M) = flatP L ++ flatP M := by unfold flatP; rw [List.flatMap_append]
theorem flatP_take (L : List (TS × Value)) (k : Nat) (hk : k ≤ L.length) : (flatP L).take (k * 3) = flatP (L.take k) := by
  have h : flatP L = flatP (L.take k) ++ flatP (L.drop k) := by rw [← flatP_append, List.take_append_drop]
  have hl : (flatP (L.take k)).length = k * 3 := by rw [flatP_len, List.length_take]; omega
  rw [h, ← hl, List.take_left]
theorem flatP_drop (L : List (TS × Value)) (k : Nat) (hk : k ≤ L.length) : (flatP L).drop (k * 3) = flatP (L.drop k) := by
  have h : flatP L = flatP (L.take k) ++ flatP (L.drop k) := by rw [← flatP_append, List.take_append_drop]
  have hl : (flatP (L.take k)).length = k * 3 := by rw [flatP_len, List.length_take]; omega
  rw [h, ← hl, List.drop_left]
theorem flatP_at (L : List (TS × Value)) (j : Nat) (hj : j < L.length) : (flatP L)[j * 3]? = some (.string L[j].1.name) ∧ (flatP L)[j * 3 + 1]? = some L[j].2 ∧ (flatP L)[j * 3 + 2]? = some (.int .i64 L[j].1.type) := by
  have h1 := flatP_drop L j (by omega)
  rw [List.drop_eq_getElem_cons hj] at h1
  have h2 : ∀ i, (flatP L)[j * 3 + i]? = (flatP (L[j] :: L.drop (j + 1)))[i]? := fun i => by rw [← h1, List.getElem?_drop]
  exact ⟨h2 0, h2 1, h2 2⟩
theorem flatP_one (L : List (TS × Value)) (hs : ∀ p ∈ L, ∃ a l c, p.2 = .slice a l c) : ∀ u ∈ flatP L, u.oneCell' = true := fun u hu => by
  unfold flatP at hu
  obtain ⟨p, hp, hu⟩ := List.mem_flatMap.1 hu
  obtain ⟨a, l, c, e⟩ := hs p hp
  unfold cellsP at hu
  rw [e] at hu
  simp only [List.mem_cons, List.not_mem_nil, or_false] at hu
  rcases hu with rfl | rfl | rfl <;> rfl
theorem three_newE (W : World) (x y z : Value) (t : TypeId) : ∀ j u, [x, y, z][j]? = some u → (W.alloc (.cells #[x, y, z] t)).cell? ((⟨W.heap.size, 0, none⟩ : Addr).add j) = some u := fun j u hu => by
  rw [Addr.add_lit, Nat.zero_add, alloc_cell]
  simpa using hu
theorem own_succE {W : World} {base : Nat} {e : TypeId} {size : Nat} {v : Value} {k : Nat} {xs : List Value} (h : W.ownsRow base e size v (k + 1) xs) : ∃ g cap, v = .slice (some ⟨g, 0, none⟩) (k + 1) cap := by
  rcases h.2 with ⟨_, h0⟩ | ⟨g, cap, cur, hv, _⟩
  · omega
  · exact ⟨g, cap, hv⟩
theorem own_lowerE {W : World} {m m' e size k : Nat} {v : Value} {xs : List Value} (h : W.ownsRow m e size v k xs) (hm : m' ≤ m) : W.ownsRow m' e size v k xs := by
  refine ⟨h.1, ?_⟩
  rcases h.2 with hn | ⟨g, cap, cur, hv, hg, rest⟩
  · exact .inl hn
  · exact .inr ⟨g, cap, cur, hv, by omega, rest⟩
/-- The list with a line put where it belongs. -/
def putP (p : TS × Value) (L : List (TS × Value)) (k : Nat) : List (TS × Value) := L.take k ++ p :: L.drop k

set_option maxRecDepth 100000 in
set_option maxHeartbeats 8000000 in
theorem l3Put_any (base b cap : Nat) (L : List (TS × Value)) (s : TS) (sa : Option Addr) (sl sc : Nat) (w : World) (hrow : w.ownsRow base 52 3 (.slice (some ⟨b, 0, none⟩) L.length cap) L.length (flatP L)) (hL : ∀ p ∈ L, ∃ a l c, p.2 = .slice a l c) (hn : L.length ≤ 1000) :
    Calls Tryz.prog 20 #[.slice (some ⟨b, 0, none⟩) L.length cap, .agg #[.string s.name, .slice sa sl sc, .int .i64 s.type]] w fun r w' => ∃ (g cap' k : Nat), r = .returned (.slice (some ⟨g, 0, none⟩) (L.length + 1) cap') ∧ w'.ownsRow w.heap.size 52 3 (.slice (some ⟨g, 0, none⟩) (L.length + 1) cap') (L.length + 1) (flatP (putP (s, .slice sa sl sc) L k)) ∧ putR s (L.map Prod.fst) = (putP (s, .slice sa sl sc) L k).map Prod.fst ∧ Below w.heap.size w w' := by
  obtain ⟨i0, hi, hz0, hz1, hz2⟩ := info_parts infoSig
  have hcell : ∀ i u, (flatP L)[i]? = some u → w.cell? ⟨b, i, none⟩ = some u := fun i u hu => by
    have := hrow.cells (g := b) rfl i u hu
    rwa [Addr.add_lit, Nat.zero_add] at this
  have hbl : b < w.heap.size := (hrow.lt b rfl).2
  have hcap : L.length ≤ cap ∧ cap ≤ maxLen := by
    rcases hrow.2 with ⟨h, _⟩ | ⟨g, c, cur, h, _, _, h4, h5, _⟩
    · cases h
    · cases h; exact ⟨h4, h5⟩
  unfold maxLen at hcap
  obtain ⟨hcap1, hcap2⟩ := hcap
  have HC := hide hcell
  have HL := hide hL
  have N0 := hide (Blk.new w [.string s.name, .slice sa sl sc, .int .i64 s.type] 52)
  have HW := hide (below_newY2 w (.cells #[.string s.name, .slice sa sl sc, .int .i64 s.type] 52))
  clear hcell hL hrow
  go_enter Tryz.func20, Tryz.ntmps20
  go_wp2
  obtain ⟨W, hWW⟩ : ∃ W, W = (w.alloc (.cells #[.string s.name, .slice sa sl sc, .int .i64 s.type] 52)) := ⟨_, rfl⟩
  have hWs : W.heap.size = w.heap.size + 1 := by rw [hWW]; simp
  rw [← hWW] at N0 HW ⊢
  clear hWW
  have HWS := hide hWs
  clear hWs
  go_loopw [5] (fun i wr => ∃ k q : Nat, k ≤ L.length ∧ i = .int .i64 k ∧ wr = W.drewN q ∧ Hid (∀ j (hj : j < L.length), j < k → key L[j].1 < key s)) (fun i _ => L.length - (intOf i).toNat)
  case atStart => exact ⟨0, 0, Nat.zero_le _, rfl, rfl, hide (fun j _ hj => absurd hj (Nat.not_lt_zero _))⟩
  case round =>
    obtain ⟨k, q, hk, rfl, rfl, HK⟩ := hrel
    by_cases hp : k < L.length
    · have hck : W.cell? ⟨b, k * 3, none⟩ = some (.string L[k].1.name) := ((unhide HW).cell (p := ⟨b, k * 3, none⟩) hbl).trans (unhide HC _ _ (flatP_at L k hp).1)
      have hcs : W.cell? ⟨w.heap.size, 0, none⟩ = some (.string s.name) := (unhide N0).cellAt (i := 0) rfl
      obtain ⟨t, ht⟩ : ∃ t, L[k].1 = t := ⟨_, rfl⟩
      rw [ht] at hck
      have HTT := hide ht
      clear ht
      cases hlt : Op.bytesLess t.name.toList s.name.toList with
      | true =>
        have HLT : Hid (key L[k].1 < key s) := hide (by rw [unhide HTT]; unfold key; rw [ByteArray.toList_eq, ByteArray.toList_eq, less_eqG] at hlt; exact of_decide_eq_true hlt)
        go_wp2
        go_region
        go_wp2
        go_roundw
        case rel => exact ⟨k + 1, _, by omega, by go_num, rfl, hide (fun j hj hjk => by
          by_cases e : j = k
          · subst e; exact unhide HLT
          · exact unhide HK j hj (by omega))⟩
        case measure => simp [intOf]; omega
      | false =>
        go_wp2
        go_region
        -- behind the loop
        have HFIN : Hid (∀ hk : k < L.length, ¬ key L[k].1 < key s) := hide (fun _ h => by rw [unhide HTT] at h; unfold key at h; rw [ByteArray.toList_eq, ByteArray.toList_eq, less_eqG] at hlt; exact of_decide_eq_false hlt h)
        have HPUT : Hid (putR s (L.map Prod.fst) = (putP (s, .slice sa sl sc) L k).map Prod.fst) := hide (by
          rw [putR_at (l := L.map Prod.fst) (k := k) (by simpa using hk) (fun j hj hjk => by rw [List.getElem_map]; exact unhide HK j (by simpa using hj) hjk) (fun hk2 => by rw [List.getElem_map]; exact unhide HFIN (by simpa using hk2))]
          unfold putP
          rw [List.map_append, List.map_cons, List.map_take, List.map_drop])
        have HTL : Hid ((flatP (L.take k)).length = k * 3) := hide (by rw [flatP_len, List.length_take]; omega)
        have HDL : Hid ((flatP (L.drop k)).length = (L.length - k) * 3) := hide (by rw [flatP_len, List.length_drop])
        have HND : Hid (∀ W' : World, Below W.heap.size W W' → ∀ j u, (flatP (L.drop k))[j]? = some u → W'.cell? ((⟨b, k * 3, none⟩ : Addr).add j) = some u) := hide (fun W' hb j u hu => by
          rw [← flatP_drop L k hk, List.getElem?_drop] at hu
          rw [Addr.add_lit]
          exact (hb.cell (p := ⟨b, k * 3 + j, none⟩) (by show b < _; have := unhide HWS; omega)).trans (((unhide HW).cell (p := ⟨b, k * 3 + j, none⟩) hbl).trans (unhide HC _ _ hu)))
        have HNT : Hid (∀ W' : World, Below (W.drewN (q + 1)).heap.size (W.drewN (q + 1)) W' → ∀ j u, (flatP (L.take k))[j]? = some u → W'.cell? ((⟨b, 0, none⟩ : Addr).add j) = some u) := hide (fun W' hb j u hu => by
          have hj : j < k * 3 := by
            rcases Nat.lt_or_ge j (k * 3) with x | x
            · exact x
            · rw [List.getElem?_eq_none (by rw [unhide HTL]; exact x)] at hu; cases hu
          rw [← flatP_take L k hk, List.getElem?_take_of_lt hj] at hu
          rw [Addr.add_lit, Nat.zero_add]
          exact (hb.cell (p := ⟨b, j, none⟩) (by show b < W.heap.size; have := unhide HWS; omega)).trans (((unhide HW).cell (p := ⟨b, j, none⟩) hbl).trans (unhide HC _ _ hu)))
        go_wp2_with (at_builtin; first | (refine wpList_append_own _ rfl _ _ 34 rfl W.heap.size 52 i0 (.agg #[.string ⟨#[]⟩, .slice none 0 0, .int .i64 0]) 3 48 Tryz.underlying34 hi hz0 hz1 hz2 rfl (by decide) (.slice (some ⟨W.heap.size, 0, none⟩) 0 0) 0 [] rfl (World.ownsRow_lit (W.drewN (q + 1)) #[] 0 (Nat.le_refl _) (Nat.zero_le _) rfl) ⟨b, 0, none⟩ k cap (flatP (L.take k)) rfl (unhide HTL) (fun j u hu => unhide HNT _ (below_newY2 _ _) j u hu) (flatP_one _ (fun p hp => unhide HL p (List.mem_of_mem_take hp))) (by unfold maxLen; omega) (by omega) (by simp) ?_; intro v1 w1 hown1 hgrow1 _; rw [Nat.zero_add, List.nil_append] at hown1; obtain ⟨o1, p1, rfl⟩ := own_sliceN hown1; have hb1 : Below W.heap.size W w1 := (below_drewN (Below.refl _ W) _).trans ((below_newY2 (W.drewN (q + 1)) (.cells #[] 52)).trans ((Below.refl _ _).grown hgrow1 (by simp) (fun x hx => by cases hx; exact Nat.le_refl _))); have n1 := (unhide N0).below hb1 (by have := unhide HWS; omega); have e0 := n1.cellAt (i := 0) rfl; have e1 := n1.cellAt (i := 1) rfl; have e2 := n1.cellAt (i := 2) rfl; have HO1 := hide hown1; have HB1 := hide hb1; clear n1 hb1 hown1 hgrow1) | (refine wpList_append_own _ rfl _ _ 34 rfl W.heap.size 52 i0 (.agg #[.string ⟨#[]⟩, .slice none 0 0, .int .i64 0]) 3 48 Tryz.underlying34 hi hz0 hz1 hz2 rfl (by decide) (.slice o1 k p1) k (flatP (L.take k)) rfl ((unhide HO1).alloc _) ⟨w1.heap.size, 0, none⟩ 1 1 [.string s.name, .slice sa sl sc, .int .i64 s.type] rfl rfl (three_newE w1 _ _ _ 52) (by simp [Value.oneCell']) (by unfold maxLen; omega) (by omega) (by have := (unhide HB1).size; simp; omega) ?_; intro v2 w2 hown2 hgrow2 _; obtain ⟨o2, p2, rfl⟩ := own_sliceN hown2; have hb2 : Below W.heap.size W w2 := (unhide HB1).trans ((((Below.refl _ w1).alloc (unhide HB1).size _)).trans ((Below.refl _ _).grown hgrow2 (by have := (unhide HB1).size; simp; omega) (fun x hx => ((unhide HO1).lt x hx).1))); have HO2 := hide hown2; have HB2 := hide hb2; clear hb2 hown2 hgrow2 e0 e1 e2) | (refine wpList_append_own _ rfl _ _ 34 rfl W.heap.size 52 i0 (.agg #[.string ⟨#[]⟩, .slice none 0 0, .int .i64 0]) 3 48 Tryz.underlying34 hi hz0 hz1 hz2 rfl (by decide) (.slice o2 (k + 1) p2) (k + 1) (flatP (L.take k) ++ [.string s.name, .slice sa sl sc, .int .i64 s.type]) rfl (unhide HO2) ⟨b, k * 3, none⟩ (L.length - k) (cap - k) (flatP (L.drop k)) rfl (unhide HDL) (fun j u hu => unhide HND _ (unhide HB2) j u hu) (flatP_one _ (fun p hp => unhide HL p (List.mem_of_mem_drop hp))) (by unfold maxLen; omega) (by omega) (unhide HB2).size ?_; intro v3 w3 hown3 hgrow3 _; have hb3 : Below W.heap.size W w3 := (unhide HB2).trans ((Below.refl _ _).grown hgrow3 (unhide HB2).size (fun x hx => ((unhide HO2).lt x hx).1)); rw [show k + 1 + (L.length - k) = L.length + 1 by omega] at hown3; obtain ⟨g3, c3, rfl⟩ := own_succE hown3; have HO3 := hide hown3; have HB3 := hide hb3; clear hb3 hown3 hgrow3))
        have HQ : Hid (w3.ownsRow w.heap.size 52 3 (.slice (some ⟨g3, 0, none⟩) (L.length + 1) c3) (L.length + 1) (flatP (putP (s, .slice sa sl sc) L k))) := hide (by
          have ho := unhide HO3
          rw [List.append_assoc] at ho
          have e : flatP (putP (s, .slice sa sl sc) L k) = flatP (L.take k) ++ ([.string s.name, .slice sa sl sc, .int .i64 s.type] ++ flatP (L.drop k)) := by
            unfold putP
            rw [flatP_append]
            rfl
          rw [e]
          exact own_lowerE ho (unhide HW).size)
        have HBF := hide ((unhide HW).trans ((unhide HB3).mono (unhide HW).size))
        go_ret
        first
          | exact ⟨g3, c3, k, rfl, unhide HQ, unhide HPUT, unhide HBF⟩
          | exact ⟨g3, c3, rfl, k, unhide HQ, unhide HPUT, unhide HBF⟩
          | exact ⟨g3, c3, rfl, ⟨k, unhide HQ, unhide HPUT⟩, unhide HBF⟩
    · by_cases hck : cap = k
      · subst hck
        go_wp2
        go_region
        -- behind the loop
        have HFIN : Hid (∀ hk : cap < L.length, ¬ key L[cap].1 < key s) := hide (fun h => absurd h hp)
        have HPUT : Hid (putR s (L.map Prod.fst) = (putP (s, .slice sa sl sc) L cap).map Prod.fst) := hide (by
          rw [putR_at (l := L.map Prod.fst) (k := cap) (by simpa using hk) (fun j hj hjk => by rw [List.getElem_map]; exact unhide HK j (by simpa using hj) hjk) (fun hk2 => by rw [List.getElem_map]; exact unhide HFIN (by simpa using hk2))]
          unfold putP
          rw [List.map_append, List.map_cons, List.map_take, List.map_drop])
        have HDE : Hid (flatP (L.drop cap) = []) := hide (by rw [List.drop_of_length_le (by omega)]; rfl)
        have HTL : Hid ((flatP (L.take cap)).length = cap * 3) := hide (by rw [flatP_len, List.length_take]; omega)
        have HDL : Hid ((flatP (L.drop cap)).length = (L.length - cap) * 3) := hide (by rw [flatP_len, List.length_drop])
        have HND : Hid (∀ W' : World, Below W.heap.size W W' → ∀ j u, (flatP (L.drop cap))[j]? = some u → W'.cell? ((⟨b, cap * 3, none⟩ : Addr).add j) = some u) := hide (fun W' hb j u hu => by
          rw [← flatP_drop L cap hk, List.getElem?_drop] at hu
          rw [Addr.add_lit]
          exact (hb.cell (p := ⟨b, cap * 3 + j, none⟩) (by show b < _; have := unhide HWS; omega)).trans (((unhide HW).cell (p := ⟨b, cap * 3 + j, none⟩) hbl).trans (unhide HC _ _ hu)))
        have HNT : Hid (∀ W' : World, Below (W.drewN (q + 1)).heap.size (W.drewN (q + 1)) W' → ∀ j u, (flatP (L.take cap))[j]? = some u → W'.cell? ((⟨b, 0, none⟩ : Addr).add j) = some u) := hide (fun W' hb j u hu => by
          have hj : j < cap * 3 := by
            rcases Nat.lt_or_ge j (cap * 3) with x | x
            · exact x
            · rw [List.getElem?_eq_none (by rw [unhide HTL]; exact x)] at hu; cases hu
          rw [← flatP_take L cap hk, List.getElem?_take_of_lt hj] at hu
          rw [Addr.add_lit, Nat.zero_add]
          exact (hb.cell (p := ⟨b, j, none⟩) (by show b < W.heap.size; have := unhide HWS; omega)).trans (((unhide HW).cell (p := ⟨b, j, none⟩) hbl).trans (unhide HC _ _ hu)))
        go_wp2_with (at_builtin; first | (refine wpList_append_own _ rfl _ _ 34 rfl W.heap.size 52 i0 (.agg #[.string ⟨#[]⟩, .slice none 0 0, .int .i64 0]) 3 48 Tryz.underlying34 hi hz0 hz1 hz2 rfl (by decide) (.slice (some ⟨W.heap.size, 0, none⟩) 0 0) 0 [] rfl (World.ownsRow_lit (W.drewN (q + 1)) #[] 0 (Nat.le_refl _) (Nat.zero_le _) rfl) ⟨b, 0, none⟩ cap cap (flatP (L.take cap)) rfl (unhide HTL) (fun j u hu => unhide HNT _ (below_newY2 _ _) j u hu) (flatP_one _ (fun p hp => unhide HL p (List.mem_of_mem_take hp))) (by unfold maxLen; omega) (by omega) (by simp) ?_; intro v1 w1 hown1 hgrow1 _; rw [Nat.zero_add, List.nil_append] at hown1; obtain ⟨o1, p1, rfl⟩ := own_sliceN hown1; have hb1 : Below W.heap.size W w1 := (below_drewN (Below.refl _ W) _).trans ((below_newY2 (W.drewN (q + 1)) (.cells #[] 52)).trans ((Below.refl _ _).grown hgrow1 (by simp) (fun x hx => by cases hx; exact Nat.le_refl _))); have n1 := (unhide N0).below hb1 (by have := unhide HWS; omega); have e0 := n1.cellAt (i := 0) rfl; have e1 := n1.cellAt (i := 1) rfl; have e2 := n1.cellAt (i := 2) rfl; have HO1 := hide hown1; have HB1 := hide hb1; clear n1 hb1 hown1 hgrow1) | (refine wpList_append_own _ rfl _ _ 34 rfl W.heap.size 52 i0 (.agg #[.string ⟨#[]⟩, .slice none 0 0, .int .i64 0]) 3 48 Tryz.underlying34 hi hz0 hz1 hz2 rfl (by decide) (.slice o1 cap p1) cap (flatP (L.take cap)) rfl ((unhide HO1).alloc _) ⟨w1.heap.size, 0, none⟩ 1 1 [.string s.name, .slice sa sl sc, .int .i64 s.type] rfl rfl (three_newE w1 _ _ _ 52) (by simp [Value.oneCell']) (by unfold maxLen; omega) (by omega) (by have := (unhide HB1).size; simp; omega) ?_; intro v2 w2 hown2 hgrow2 _; obtain ⟨o2, p2, rfl⟩ := own_sliceN hown2; have hb2 : Below W.heap.size W w2 := (unhide HB1).trans ((((Below.refl _ w1).alloc (unhide HB1).size _)).trans ((Below.refl _ _).grown hgrow2 (by have := (unhide HB1).size; simp; omega) (fun x hx => ((unhide HO1).lt x hx).1))); have HO2 := hide hown2; have HB2 := hide hb2; clear hb2 hown2 hgrow2 e0 e1 e2) | (refine wpList_append_own _ rfl _ _ 34 rfl W.heap.size 52 i0 (.agg #[.string ⟨#[]⟩, .slice none 0 0, .int .i64 0]) 3 48 Tryz.underlying34 hi hz0 hz1 hz2 rfl (by decide) (.slice o2 (cap + 1) p2) (cap + 1) (flatP (L.take cap) ++ [.string s.name, .slice sa sl sc, .int .i64 s.type]) rfl (unhide HO2) ⟨b, 0, none⟩ 0 0 ([] : List Value) rfl rfl (fun j u hu => by simp at hu) (fun u hu => by cases hu) (by unfold maxLen; omega) (by omega) (unhide HB2).size ?_; intro v3 w3 hown3 hgrow3 _; have hb3 : Below W.heap.size W w3 := (unhide HB2).trans ((Below.refl _ _).grown hgrow3 (unhide HB2).size (fun x hx => ((unhide HO2).lt x hx).1)); rw [show cap + 1 + 0 = L.length + 1 by omega] at hown3; obtain ⟨g3, c3, rfl⟩ := own_succE hown3; have HO3 := hide hown3; have HB3 := hide hb3; clear hb3 hown3 hgrow3))
        have HQ : Hid (w3.ownsRow w.heap.size 52 3 (.slice (some ⟨g3, 0, none⟩) (L.length + 1) c3) (L.length + 1) (flatP (putP (s, .slice sa sl sc) L cap))) := hide (by
          have ho := unhide HO3
          rw [List.append_assoc] at ho
          have e : flatP (putP (s, .slice sa sl sc) L cap) = flatP (L.take cap) ++ ([.string s.name, .slice sa sl sc, .int .i64 s.type] ++ flatP (L.drop cap)) := by
            unfold putP
            rw [flatP_append]
            rfl
          rw [e]
          rw [unhide HDE]
          exact own_lowerE ho (unhide HW).size)
        have HBF := hide ((unhide HW).trans ((unhide HB3).mono (unhide HW).size))
        go_ret
        first
          | exact ⟨g3, c3, cap, rfl, unhide HQ, unhide HPUT, unhide HBF⟩
          | exact ⟨g3, c3, rfl, cap, unhide HQ, unhide HPUT, unhide HBF⟩
          | exact ⟨g3, c3, rfl, ⟨cap, unhide HQ, unhide HPUT⟩, unhide HBF⟩
      · have hkc : k < cap := by omega
        go_wp2
        go_region
        -- behind the loop
        have HFIN : Hid (∀ hk : k < L.length, ¬ key L[k].1 < key s) := hide (fun h => absurd h hp)
        have HPUT : Hid (putR s (L.map Prod.fst) = (putP (s, .slice sa sl sc) L k).map Prod.fst) := hide (by
          rw [putR_at (l := L.map Prod.fst) (k := k) (by simpa using hk) (fun j hj hjk => by rw [List.getElem_map]; exact unhide HK j (by simpa using hj) hjk) (fun hk2 => by rw [List.getElem_map]; exact unhide HFIN (by simpa using hk2))]
          unfold putP
          rw [List.map_append, List.map_cons, List.map_take, List.map_drop])
        have HTL : Hid ((flatP (L.take k)).length = k * 3) := hide (by rw [flatP_len, List.length_take]; omega)
        have HDL : Hid ((flatP (L.drop k)).length = (L.length - k) * 3) := hide (by rw [flatP_len, List.length_drop])
        have HND : Hid (∀ W' : World, Below W.heap.size W W' → ∀ j u, (flatP (L.drop k))[j]? = some u → W'.cell? ((⟨b, k * 3, none⟩ : Addr).add j) = some u) := hide (fun W' hb j u hu => by
          rw [← flatP_drop L k hk, List.getElem?_drop] at hu
          rw [Addr.add_lit]
          exact (hb.cell (p := ⟨b, k * 3 + j, none⟩) (by show b < _; have := unhide HWS; omega)).trans (((unhide HW).cell (p := ⟨b, k * 3 + j, none⟩) hbl).trans (unhide HC _ _ hu)))
        have HNT : Hid (∀ W' : World, Below (W.drewN (q + 1)).heap.size (W.drewN (q + 1)) W' → ∀ j u, (flatP (L.take k))[j]? = some u → W'.cell? ((⟨b, 0, none⟩ : Addr).add j) = some u) := hide (fun W' hb j u hu => by
          have hj : j < k * 3 := by
            rcases Nat.lt_or_ge j (k * 3) with x | x
            · exact x
            · rw [List.getElem?_eq_none (by rw [unhide HTL]; exact x)] at hu; cases hu
          rw [← flatP_take L k hk, List.getElem?_take_of_lt hj] at hu
          rw [Addr.add_lit, Nat.zero_add]
          exact (hb.cell (p := ⟨b, j, none⟩) (by show b < W.heap.size; have := unhide HWS; omega)).trans (((unhide HW).cell (p := ⟨b, j, none⟩) hbl).trans (unhide HC _ _ hu)))
        go_wp2_with (at_builtin; first | (refine wpList_append_own _ rfl _ _ 34 rfl W.heap.size 52 i0 (.agg #[.string ⟨#[]⟩, .slice none 0 0, .int .i64 0]) 3 48 Tryz.underlying34 hi hz0 hz1 hz2 rfl (by decide) (.slice (some ⟨W.heap.size, 0, none⟩) 0 0) 0 [] rfl (World.ownsRow_lit (W.drewN (q + 1)) #[] 0 (Nat.le_refl _) (Nat.zero_le _) rfl) ⟨b, 0, none⟩ k cap (flatP (L.take k)) rfl (unhide HTL) (fun j u hu => unhide HNT _ (below_newY2 _ _) j u hu) (flatP_one _ (fun p hp => unhide HL p (List.mem_of_mem_take hp))) (by unfold maxLen; omega) (by omega) (by simp) ?_; intro v1 w1 hown1 hgrow1 _; rw [Nat.zero_add, List.nil_append] at hown1; obtain ⟨o1, p1, rfl⟩ := own_sliceN hown1; have hb1 : Below W.heap.size W w1 := (below_drewN (Below.refl _ W) _).trans ((below_newY2 (W.drewN (q + 1)) (.cells #[] 52)).trans ((Below.refl _ _).grown hgrow1 (by simp) (fun x hx => by cases hx; exact Nat.le_refl _))); have n1 := (unhide N0).below hb1 (by have := unhide HWS; omega); have e0 := n1.cellAt (i := 0) rfl; have e1 := n1.cellAt (i := 1) rfl; have e2 := n1.cellAt (i := 2) rfl; have HO1 := hide hown1; have HB1 := hide hb1; clear n1 hb1 hown1 hgrow1) | (refine wpList_append_own _ rfl _ _ 34 rfl W.heap.size 52 i0 (.agg #[.string ⟨#[]⟩, .slice none 0 0, .int .i64 0]) 3 48 Tryz.underlying34 hi hz0 hz1 hz2 rfl (by decide) (.slice o1 k p1) k (flatP (L.take k)) rfl ((unhide HO1).alloc _) ⟨w1.heap.size, 0, none⟩ 1 1 [.string s.name, .slice sa sl sc, .int .i64 s.type] rfl rfl (three_newE w1 _ _ _ 52) (by simp [Value.oneCell']) (by unfold maxLen; omega) (by omega) (by have := (unhide HB1).size; simp; omega) ?_; intro v2 w2 hown2 hgrow2 _; obtain ⟨o2, p2, rfl⟩ := own_sliceN hown2; have hb2 : Below W.heap.size W w2 := (unhide HB1).trans ((((Below.refl _ w1).alloc (unhide HB1).size _)).trans ((Below.refl _ _).grown hgrow2 (by have := (unhide HB1).size; simp; omega) (fun x hx => ((unhide HO1).lt x hx).1))); have HO2 := hide hown2; have HB2 := hide hb2; clear hb2 hown2 hgrow2 e0 e1 e2) | (refine wpList_append_own _ rfl _ _ 34 rfl W.heap.size 52 i0 (.agg #[.string ⟨#[]⟩, .slice none 0 0, .int .i64 0]) 3 48 Tryz.underlying34 hi hz0 hz1 hz2 rfl (by decide) (.slice o2 (k + 1) p2) (k + 1) (flatP (L.take k) ++ [.string s.name, .slice sa sl sc, .int .i64 s.type]) rfl (unhide HO2) ⟨b, k * 3, none⟩ (L.length - k) (cap - k) (flatP (L.drop k)) rfl (unhide HDL) (fun j u hu => unhide HND _ (unhide HB2) j u hu) (flatP_one _ (fun p hp => unhide HL p (List.mem_of_mem_drop hp))) (by unfold maxLen; omega) (by omega) (unhide HB2).size ?_; intro v3 w3 hown3 hgrow3 _; have hb3 : Below W.heap.size W w3 := (unhide HB2).trans ((Below.refl _ _).grown hgrow3 (unhide HB2).size (fun x hx => ((unhide HO2).lt x hx).1)); rw [show k + 1 + (L.length - k) = L.length + 1 by omega] at hown3; obtain ⟨g3, c3, rfl⟩ := own_succE hown3; have HO3 := hide hown3; have HB3 := hide hb3; clear hb3 hown3 hgrow3))
        have HQ : Hid (w3.ownsRow w.heap.size 52 3 (.slice (some ⟨g3, 0, none⟩) (L.length + 1) c3) (L.length + 1) (flatP (putP (s, .slice sa sl sc) L k))) := hide (by
          have ho := unhide HO3
          rw [List.append_assoc] at ho
          have e : flatP (putP (s, .slice sa sl sc) L k) = flatP (L.take k) ++ ([.string s.name, .slice sa sl sc, .int .i64 s.type] ++ flatP (L.drop k)) := by
            unfold putP
            rw [flatP_append]
            rfl
          rw [e]
          exact own_lowerE ho (unhide HW).size)
        have HBF := hide ((unhide HW).trans ((unhide HB3).mono (unhide HW).size))
        go_ret
        first
          | exact ⟨g3, c3, k, rfl, unhide HQ, unhide HPUT, unhide HBF⟩
          | exact ⟨g3, c3, rfl, k, unhide HQ, unhide HPUT, unhide HBF⟩
          | exact ⟨g3, c3, rfl, ⟨k, unhide HQ, unhide HPUT⟩, unhide HBF⟩
end Go.Proofs.YtffabnmgcicpiaaGreat
