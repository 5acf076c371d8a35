/- The walks of markStringS and markGraphNodeS on rows that may be written. Conditions: the row can be read, and may be written. -/
import Derived.Test.YtgdeehldpmfpgaaMk
import Derived.Test.YtgdeehldpmfpgaaQja
namespace Go.Proofs.Ytgdeehldpmfpgaa
open Go.RowKit Go.PlainAid

def sm {α : Type} (f : α → Nat) (l : List α) : Nat := (l.map f).sum
theorem sm_step {α : Type} (f : α → Nat) (xs : List α) (k : Nat) (h : k < xs.length) : sm f (xs.take (k + 1)) = sm f (xs.take k) + f xs[k] := by
  unfold sm; rw [List.take_succ_eq_append_getElem h, List.map_append, List.sum_append]; simp
theorem sm_le {α : Type} (f : α → Nat) (xs : List α) (k : Nat) : sm f (xs.take k) ≤ sm f xs := by
  have : sm f xs = sm f (xs.take k) + sm f (xs.drop k) := by
    unfold sm
    conv => lhs; rw [← List.take_append_drop k xs]
    rw [List.map_append, List.sum_append]
  omega
def ShW (w : World) (lo n : Nat) (a : Option Addr) (m : Nat) : Prop := m = 0 ∨ ∃ b off : Nat, a = some ⟨b, off, none⟩ ∧ lo ≤ b ∧ b < n ∧ ∀ j, j < m → ∃ x, w.cell? ⟨b, off + j, none⟩ = some (.string x)
theorem ShW.of {w : World} {lo n : Nat} {a : Option Addr} {zs : List ByteArray} (h : IsWds w lo n a zs) : ShW w lo n a zs.length := by
  rcases h with rfl | ⟨b, off, h1, h0, h2, h3⟩
  · exact .inl rfl
  · exact .inr ⟨b, off, h1, h0, h2, fun j hj => ⟨_, h3 j hj⟩⟩
theorem ShW.ak {w w' : World} {lo n : Nat} {a : Option Addr} {m : Nat} (h : ShW w lo n a m) (hm : Mk lo n w w') : ShW w' lo n a m := by
  rcases h with h | ⟨b, off, h1, h0, h2, h3⟩
  · exact .inl h
  · refine .inr ⟨b, off, h1, h0, h2, fun j hj => ?_⟩
    obtain ⟨x, hx⟩ := h3 j hj
    obtain ⟨v, hv, ha⟩ := hm.al _ _ _ h0 h2 hx
    obtain ⟨y, rfl⟩ := ha.str
    exact ⟨y, hv⟩
theorem mk_text {lo n : Nat} {w w' : World} (h : Below w.heap.size w w') (hn : n ≤ w.heap.size) (hl : lo ≤ n) : Mk lo n w w' := Mk.below h hn (Nat.le_trans hl hn)
theorem akI (i j : Int) : Ak (.int .i64 i) (.int .i64 j) := .inr (.inl ⟨_, _, rfl, rfl⟩)
theorem akS (i j : ByteArray) : Ak (.string i) (.string j) := .inr (.inr (.inl ⟨_, _, rfl, rfl⟩))
set_option maxRecDepth 100000 in
set_option maxHeartbeats 2000000 in
theorem markWds_any (lo n : Nat) (a : Option Addr) (cap m : Nat) (k0 : Nat) (w : World) (hS : ShW w lo n a m) (hF : Fr w lo n) (hn : n ≤ w.heap.size) (hlo : lo ≤ n) (_h1 : 1 ≤ k0) (hk : k0 + m ≤ 100000000000) :
    MkCalls lo n 26 (.slice a m cap) k0 m w := by
  unfold MkCalls
  have HS := hide hS
  have HF := hide hF
  have HN := hide hn
  have HLO := hide hlo
  clear hS hF hlo hn
  go_enter Try.func26, Try.ntmps26
  go_wp2
  go_loopw [1, 5] (fun kk i wr => ∃ j q : Nat, j ≤ m ∧ i = .int .i64 j ∧ kk = .int .i64 q ∧ k0 ≤ q ∧ Hid (q ≤ k0 + j) ∧ q ≤ 100000000000 ∧ Hid (Mk lo n w wr)) (fun _ i _ => m - (intOf i).toNat)
  case atStart => exact ⟨0, k0, Nat.zero_le _, rfl, rfl, Nat.le_refl _, hide (Nat.le_add_right _ _), by omega, hide (Mk.refl _ _ _)⟩
  case round =>
    obtain ⟨j, q, hj, rfl, rfl, hq1, HQ, hq3, HM⟩ := hrel
    have HN0 := hide (Nat.le_trans (unhide HN) (unhide HM).size)
    by_cases hp : j < m
    · rcases (unhide HS).ak (unhide HM) with e0 | ⟨b, off, rfl, hbl, hbn, hcs⟩
      · omega
      obtain ⟨x0, d0⟩ := hcs j hp
      have HX1 : Hid True := hide trivial
      have HX3 : Hid True := hide trivial
      have HFR := hide ((unhide HF).mk (unhide HM))
      have D0 := hide d0
      clear hcs d0
      have hqq : q + (1) ≤ 100000000000 := by have := unhide HQ; have := unhide HX1; have := unhide HX3; omega
      have HQN : Hid (q + (1) ≤ k0 + (j + 1)) := hide (by have := unhide HQ; have := unhide HX1; omega)
      go_wp2_with fail
      refine (markText_any (q) (by omega) (by omega) _).mono ?_
      rintro r w1 ⟨rfl, hb1⟩
      have hnW0 := Nat.le_trans (show n ≤ _ from (unhide HN0)) hb1.size
      have HM1 := hide (mk_text hb1 (unhide HN0) (unhide HLO))
      have HN1 := hide hnW0
      clear hb1 hnW0 
      obtain ⟨y1_0, g1_0, z1_0⟩ := (unhide HM1).al _ _ _ hbl hbn (unhide D0)
      obtain ⟨u1_0, rfl⟩ := z1_0.str
      clear z1_0
      have f1_0 := (unhide HFR).mk (unhide HM1) b (off + j) hbl hbn
      have G1_0 := hide g1_0
      go_wp2
      go_roundw
      case rel =>
        refine ⟨j + 1, q + 1, by omega, by go_num, by go_num, by omega, hide ?_, by omega, hide ?_⟩
        · have := unhide HQN; omega
        · refine (unhide HM).trans ?_
          exact ((unhide HM1).trans (Mk.set (unhide G1_0) (akS _ _) hbl hbn))
      case measure => simp [intOf]; omega
    · have HE : Hid (q ≤ k0 + m) := hide (by
        have := unhide HQ
        
        omega)
      go_wp2
      go_ret
      exact ⟨q, rfl, by omega, unhide HE, unhide HM⟩
def mN (s : TG) : Nat := 1 + s.uses.length
def ShN (w : World) (lo n : Nat) (v : Value) (s : TG) : Prop := ∃ (nm : ByteArray) (aa : Option Addr) (ca : Nat), v = .agg #[.string nm, .slice aa s.uses.length ca] ∧ s.uses.length ≤ maxLen ∧ ShW w lo n aa s.uses.length
theorem ShN.of {w : World} {lo n : Nat} {v : Value} {s : TG} (h : IsGn w lo n v s) : ShN w lo n v s := by
  obtain ⟨aa, ca, hv, hz, ha⟩ := h
  exact ⟨_, aa, ca, hv, hz.2.1, ShW.of ha⟩
theorem ShN.ak {w w' : World} {lo n : Nat} (hm : Mk lo n w w') (c0 e0 c1 e1 : Value) (e : TG) (a0 : Ak c0 e0) (a1 : Ak c1 e1) (h : ShN w lo n (.agg #[c0, c1]) e) : ShN w' lo n (.agg #[e0, e1]) e := by
  obtain ⟨nm, aa, ca, hv, hz, ha⟩ := h
  simp only [Value.agg.injEq, Array.mk.injEq, List.cons.injEq] at hv
  obtain ⟨rfl, rfl, -⟩ := hv
  obtain ⟨nm', rfl⟩ := a0.str
  obtain rfl := a1.slice
  exact ⟨nm', aa, ca, rfl, hz, ha.ak hm⟩
theorem IsGns.ak {R R' : Value → TG → Prop} {w w' : World} {lo n : Nat} {a : Option Addr} {xs : List TG} (h : IsGns R w lo n a xs) (hm : Mk lo n w w') (hR : ∀ c0 e0 c1 e1 e, Ak c0 e0 → Ak c1 e1 → R (.agg #[c0, c1]) e → R' (.agg #[e0, e1]) e) : IsGns R' w' lo n a xs := by
  rcases h with h | ⟨b, off, h1, h0, h2, h3⟩
  · exact .inl h
  · refine .inr ⟨b, off, h1, h0, h2, fun j hj => ?_⟩
    obtain ⟨c0, c1, d0, d1, hr⟩ := h3 j hj
    obtain ⟨e0, g0, a0⟩ := hm.al _ _ _ h0 h2 d0
    obtain ⟨e1, g1, a1⟩ := hm.al _ _ _ h0 h2 d1
    exact ⟨e0, e1, g0, g1, hR _ _ _ _ _ a0 a1 hr⟩
set_option maxRecDepth 100000 in
set_option maxHeartbeats 4000000 in
theorem markNodes_any (lo n : Nat) (a : Option Addr) (cap : Nat) (xs : List TG) (k0 : Nat) (w : World) (hS : IsGns (ShN w lo n) w lo n a xs) (hl : xs.length ≤ maxLen) (hF : Fr w lo n) (hn : n ≤ w.heap.size) (hlo : lo ≤ n) (_h1 : 1 ≤ k0) (hk : k0 + sm mN xs ≤ 100000000000) :
    MkCalls lo n 25 (.slice a xs.length cap) k0 (sm mN xs) w := by
  unfold maxLen at hl
  unfold MkCalls
  have HS := hide hS
  have HF := hide hF
  have HN := hide hn
  have HLO := hide hlo
  clear hS hF hlo hn
  go_enter Try.func25, Try.ntmps25
  go_wp2
  go_loopw [1, 5] (fun kk i wr => ∃ j q : Nat, j ≤ xs.length ∧ i = .int .i64 j ∧ kk = .int .i64 q ∧ k0 ≤ q ∧ Hid (q ≤ k0 + sm mN (xs.take j)) ∧ q ≤ 100000000000 ∧ Hid (Mk lo n w wr)) (fun _ i _ => xs.length - (intOf i).toNat)
  case atStart => exact ⟨0, k0, Nat.zero_le _, rfl, rfl, Nat.le_refl _, hide (Nat.le_add_right _ _), by omega, hide (Mk.refl _ _ _)⟩
  case round =>
    obtain ⟨j, q, hj, rfl, rfl, hq1, HQ, hq3, HM⟩ := hrel
    have HN0 := hide (Nat.le_trans (unhide HN) (unhide HM).size)
    by_cases hp : j < xs.length
    · rcases (unhide HS).ak (unhide HM) (ShN.ak (unhide HM)) with e0 | ⟨b, off, rfl, hbl, hbn, hcs⟩
      · rw [e0] at hp; simp at hp
      obtain ⟨c0, c1, d0, d1, hr⟩ := hcs j hp
      have hs1 := sm_step mN xs j hp
      have hs3 := sm_le mN xs (j + 1)
      generalize xs[j] = e at hr hs1
      obtain ⟨en, sigs⟩ := e
      rw [show mN ⟨en, sigs⟩ = 1 + sigs.length from rfl] at hs1
      obtain ⟨nm, a', cap', hv, hz, hr⟩ := hr
      simp only [Value.agg.injEq, Array.mk.injEq, List.cons.injEq] at hv
      obtain ⟨rfl, rfl, -⟩ := hv
      dsimp only at hz hr
      have HZ := hide hz
      have HR := hide hr
      clear hr hz
      have HX1 := hide hs1
      have HX3 := hide hs3
      clear hs1 hs3
      have HFR := hide ((unhide HF).mk (unhide HM))
      have D0 := hide d0
      have D1 := hide d1
      clear hcs d0 d1
      have hqq : q + (1 + sigs.length) ≤ 100000000000 := by have := unhide HQ; have := unhide HX1; have := unhide HX3; omega
      have HQN : Hid (q + (1 + sigs.length) ≤ k0 + sm mN (xs.take (j + 1))) := hide (by have := unhide HQ; have := unhide HX1; omega)
      go_wp2_with fail
      refine (markText_any (q) (by omega) (by omega) _).mono ?_
      rintro r w1 ⟨rfl, hb1⟩
      have hnW0 := Nat.le_trans (show n ≤ _ from (unhide HN0)) hb1.size
      have HM1 := hide (mk_text hb1 (unhide HN0) (unhide HLO))
      have HN1 := hide hnW0
      clear hb1 hnW0 
      obtain ⟨y1_0, g1_0, z1_0⟩ := (unhide HM1).al _ _ _ hbl hbn (unhide D0)
      obtain ⟨u1_0, rfl⟩ := z1_0.str
      clear z1_0
      have f1_0 := (unhide HFR).mk (unhide HM1) b (off + j * 2) hbl hbn
      have G1_0 := hide g1_0
      obtain ⟨y1_1, g1_1, z1_1⟩ := (unhide HM1).al _ _ _ hbl hbn (unhide D1)
      obtain rfl := z1_1.slice
      clear z1_1
      have G1_1 := hide g1_1
      go_wp2_with fail
      refine (markWds_any lo n a' cap' sigs.length (q + 1) _ ((unhide HR).ak ((unhide HM1).trans (Mk.set (unhide G1_0) (akS _ _) hbl hbn))) ((unhide HFR).mk ((unhide HM1).trans (Mk.set (unhide G1_0) (akS _ _) hbl hbn))) (by simpa [World.setCell] using unhide HN1) (unhide HLO) (by omega) (by omega)).mono ?_
      rintro r w2 ⟨q2, rfl, ha2, hc2, hm2⟩
      have HN2 := hide (Nat.le_trans (show n ≤ _ from (by simpa [World.setCell] using unhide HN1)) hm2.size)
      have HM2 := hide (((unhide HM1).trans (Mk.set (unhide G1_0) (akS _ _) hbl hbn)).trans hm2)
      clear hm2 g1_0 g1_1 f1_0
      go_wp2
      go_roundw
      case rel =>
        refine ⟨j + 1, q2, by omega, by go_num, by go_num, by omega, hide ?_, by omega, hide ?_⟩
        · have := unhide HQN; omega
        · refine (unhide HM).trans ?_
          exact (unhide HM2)
      case measure => simp [intOf]; omega
    · have HE : Hid (q ≤ k0 + sm mN xs) := hide (by
        have := unhide HQ
        rw [List.take_of_length_le (by omega)] at this
        omega)
      go_wp2
      go_ret
      exact ⟨q, rfl, by omega, unhide HE, unhide HM⟩
end Go.Proofs.Ytgdeehldpmfpgaa
