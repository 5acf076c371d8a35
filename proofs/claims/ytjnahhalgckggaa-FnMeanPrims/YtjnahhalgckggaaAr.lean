/- Marking of rows of values. Conditions: the row can be read, and may be written. -/
import Derived.Test.YtjnahhalgckggaaAb
import Derived.Test.YtjnahhalgckggaaMk
namespace Go.Proofs.Ytjnahhalgckggaa
open Go.RowKit Go.PlainAid

def sm {α : Type} (f : α → Nat) (l : List α) : Nat := (l.map f).sum
theorem sm_step {α : Type} (f : α → Nat) (xs : List α) (k : Nat) (h : k < xs.length) : sm f (xs.take (k + 1)) = sm f (xs.take k) + f xs[k] := by
  unfold sm; rw [List.take_succ_eq_append_getElem h, List.map_append, List.sum_append]; simp
theorem sm_le {α : Type} (f : α → Nat) (xs : List α) (k : Nat) : sm f (xs.take k) ≤ sm f xs := by
  have : sm f xs = sm f (xs.take k) + sm f (xs.drop k) := by
    unfold sm
    conv => lhs; rw [← List.take_append_drop k xs]
    rw [List.map_append, List.sum_append]
  omega
def ShI (w : World) (lo n : Nat) (a : Option Addr) (m : Nat) : Prop := m = 0 ∨ ∃ b off : Nat, a = some ⟨b, off, none⟩ ∧ lo ≤ b ∧ b < n ∧ ∀ j, j < m → ∃ x, w.cell? ⟨b, off + j, none⟩ = some (.int .i64 x)
theorem ShI.of {w : World} {lo n : Nat} {a : Option Addr} {zs : List Int} (h : IsInts w lo n a zs) : ShI w lo n a zs.length := by
  rcases h with rfl | ⟨b, off, h1, h0, h2, h3⟩
  · exact .inl rfl
  · exact .inr ⟨b, off, h1, h0, h2, fun j hj => ⟨_, h3 j hj⟩⟩
theorem ShI.ak {w w' : World} {lo n : Nat} {a : Option Addr} {m : Nat} (h : ShI w lo n a m) (hm : Mk lo n w w') : ShI w' lo n a m := by
  rcases h with h | ⟨b, off, h1, h0, h2, h3⟩
  · exact .inl h
  · refine .inr ⟨b, off, h1, h0, h2, fun j hj => ?_⟩
    obtain ⟨x, hx⟩ := h3 j hj
    obtain ⟨v, hv, ha⟩ := hm.al _ _ _ h0 h2 hx
    obtain ⟨y, rfl⟩ := ha.int
    exact ⟨y, hv⟩
theorem mk_text {lo n : Nat} {w w' : World} (h : Below w.heap.size w w') (hn : n ≤ w.heap.size) (hl : lo ≤ n) : Mk lo n w w' := Mk.below h hn (Nat.le_trans hl hn)
theorem akI (i j : Int) : Ak (.int .i64 i) (.int .i64 j) := .inr (.inl ⟨_, _, rfl, rfl⟩)
theorem akS (i j : ByteArray) : Ak (.string i) (.string j) := .inr (.inr (.inl ⟨_, _, rfl, rfl⟩))
theorem akB (i j : Bool) : Ak (.bool i) (.bool j) := .inr (.inr (.inr ⟨_, _, rfl, rfl⟩))

theorem IsMvs.ak {R R' : Value → MV → Prop} {w w' : World} {lo n : Nat} {a : Option Addr} {xs : List MV} (h : IsMvs R w lo n a xs) (hm : Mk lo n w w') (hR : ∀ c0 e0 c1 e1 c2 e2 e, Ak c0 e0 → Ak c1 e1 → Ak c2 e2 → R (.agg #[c0, c1, c2]) e → R' (.agg #[e0, e1, e2]) e) : IsMvs R' w' lo n a xs := by
  rcases h with h | ⟨b, off, h1, h0, h2, h3⟩
  · exact .inl h
  · refine .inr ⟨b, off, h1, h0, h2, fun j hj => ?_⟩
    obtain ⟨c0, c1, c2, d0, d1, d2, hr⟩ := h3 j hj
    obtain ⟨e0, g0, a0⟩ := hm.al _ _ _ h0 h2 d0
    obtain ⟨e1, g1, a1⟩ := hm.al _ _ _ h0 h2 d1
    obtain ⟨e2, g2, a2⟩ := hm.al _ _ _ h0 h2 d2
    exact ⟨e0, e1, e2, g0, g1, g2, hR _ _ _ _ _ _ _ a0 a1 a2 hr⟩
def ShMv (w : World) (lo n : Nat) (v : Value) (s : MV) : Prop := ∃ (k m : Int) (aa : Option Addr) (ca : Nat), v = .agg #[.int .i64 k, .int .i64 m, .slice aa s.row.length ca] ∧ s.row.length ≤ maxLen ∧ ShI w lo n aa s.row.length
theorem ShMv.of {w : World} {lo n : Nat} {v : Value} {s : MV} (h : IsMv w lo n v s) : ShMv w lo n v s := by
  obtain ⟨aa, ca, hv, hz, ha⟩ := h
  exact ⟨_, _, aa, ca, hv, hz, ShI.of ha⟩
theorem ShMv.ak {w w' : World} {lo n : Nat} (hm : Mk lo n w w') (c0 e0 c1 e1 c2 e2 : Value) (e : MV) (a0 : Ak c0 e0) (a1 : Ak c1 e1) (a2 : Ak c2 e2) (h : ShMv w lo n (.agg #[c0, c1, c2]) e) : ShMv w' lo n (.agg #[e0, e1, e2]) e := by
  obtain ⟨k, m, aa, ca, hv, hz, ha⟩ := h
  simp only [Value.agg.injEq, Array.mk.injEq, List.cons.injEq] at hv
  obtain ⟨rfl, rfl, rfl, -⟩ := hv
  obtain ⟨k', rfl⟩ := a0.int
  obtain ⟨m', rfl⟩ := a1.int
  obtain rfl := a2.slice
  exact ⟨k', m', aa, ca, rfl, hz, ha.ak hm⟩
def mV (s : MV) : Nat := 2 + s.row.length
set_option maxRecDepth 100000 in
set_option maxHeartbeats 4000000 in
theorem markInts_any (lo n : Nat) (a : Option Addr) (cap m : Nat) (k0 : Nat) (w : World) (hS : ShI w lo n a m) (hF : Fr w lo n) (hn : n ≤ w.heap.size) (hlo : lo ≤ n) (_h1 : 1 ≤ k0) (hk : k0 + m ≤ 100000000000) :
    MkCalls lo n 29 (.slice a m cap) k0 m w := by
  unfold MkCalls
  have HS := hide hS
  have HF := hide hF
  have HN := hide hn
  have HLO := hide hlo
  clear hS hF hlo hn
  go_enter Try.func29, Try.ntmps29
  go_wp2
  go_loopw [1, 5] (fun kk i wr => ∃ j q : Nat, j ≤ m ∧ i = .int .i64 j ∧ kk = .int .i64 q ∧ k0 ≤ q ∧ Hid (q ≤ k0 + j) ∧ q ≤ 100000000000 ∧ Hid (Mk lo n w wr)) (fun _ i _ => m - (intOf i).toNat)
  case atStart => exact ⟨0, k0, Nat.zero_le _, rfl, rfl, Nat.le_refl _, hide (Nat.le_add_right _ _), by omega, hide (Mk.refl _ _ _)⟩
  case round =>
    obtain ⟨j, q, hj, rfl, rfl, hq1, HQ, hq3, HM⟩ := hrel
    have HN0 := hide (Nat.le_trans (unhide HN) (unhide HM).size)
    by_cases hp : j < m
    · rcases (unhide HS).ak (unhide HM) with e0 | ⟨b, off, rfl, hbl, hbn, hcs⟩
      · omega
      obtain ⟨x0, d0⟩ := hcs j hp
      have HX1 : Hid True := hide trivial
      have HX3 : Hid True := hide trivial
      have HFR := hide ((unhide HF).mk (unhide HM))
      have D0 := hide d0
      clear hcs d0
      have hqq : q + (1) ≤ 100000000000 := by have := unhide HQ; have := unhide HX1; have := unhide HX3; omega
      have HQN : Hid (q + (1) ≤ k0 + (j + 1)) := hide (by have := unhide HQ; have := unhide HX1; omega)
      have g0_0 := unhide D0
      have f0_0 := unhide HFR b (off + j) hbl hbn
      have G0_0 := hide g0_0
      go_wp2
      go_roundw
      case rel =>
        refine ⟨j + 1, q + 1, by omega, by go_num, by go_num, by omega, hide ?_, by omega, hide ?_⟩
        · have := unhide HQN; omega
        · refine (unhide HM).trans ?_
          exact (Mk.set (unhide G0_0) (akI _ _) hbl hbn)
      case measure => simp [intOf]; omega
    · have HE : Hid (q ≤ k0 + m) := hide (by
        have := unhide HQ
        
        omega)
      go_wp2
      go_ret
      exact ⟨q, rfl, by omega, unhide HE, unhide HM⟩
set_option maxRecDepth 100000 in
set_option maxHeartbeats 4000000 in
theorem markMvs_any (lo n : Nat) (a : Option Addr) (cap : Nat) (xs : List MV) (k0 : Nat) (w : World) (hS : IsMvs (ShMv w lo n) w lo n a xs) (hl : xs.length ≤ maxLen) (hF : Fr w lo n) (hn : n ≤ w.heap.size) (hlo : lo ≤ n) (_h1 : 1 ≤ k0) (hk : k0 + sm mV xs ≤ 100000000000) :
    MkCalls lo n 13 (.slice a xs.length cap) k0 (sm mV xs) w := by
  unfold maxLen at hl
  unfold MkCalls
  have HS := hide hS
  have HF := hide hF
  have HN := hide hn
  have HLO := hide hlo
  clear hS hF hlo hn
  go_enter Try.func13, Try.ntmps13
  go_wp2
  go_loopw [1, 5] (fun kk i wr => ∃ j q : Nat, j ≤ xs.length ∧ i = .int .i64 j ∧ kk = .int .i64 q ∧ k0 ≤ q ∧ Hid (q ≤ k0 + sm mV (xs.take j)) ∧ q ≤ 100000000000 ∧ Hid (Mk lo n w wr)) (fun _ i _ => xs.length - (intOf i).toNat)
  case atStart => exact ⟨0, k0, Nat.zero_le _, rfl, rfl, Nat.le_refl _, hide (Nat.le_add_right _ _), by omega, hide (Mk.refl _ _ _)⟩
  case round =>
    obtain ⟨j, q, hj, rfl, rfl, hq1, HQ, hq3, HM⟩ := hrel
    have HN0 := hide (Nat.le_trans (unhide HN) (unhide HM).size)
    by_cases hp : j < xs.length
    · rcases (unhide HS).ak (unhide HM) (ShMv.ak (unhide HM)) with e0 | ⟨b, off, rfl, hbl, hbn, hcs⟩
      · rw [e0] at hp; simp at hp
      obtain ⟨c0, c1, c2, d0, d1, d2, hr⟩ := hcs j hp
      have hs1 := sm_step mV xs j hp
      have hs3 := sm_le mV xs (j + 1)
      generalize xs[j] = e at hr hs1
      obtain ⟨ek, en, args⟩ := e
      rw [show mV ⟨ek, en, args⟩ = 2 + args.length from rfl] at hs1
      obtain ⟨k, m, a', cap', hv, hz, hr⟩ := hr
      simp only [Value.agg.injEq, Array.mk.injEq, List.cons.injEq] at hv
      obtain ⟨rfl, rfl, rfl, -⟩ := hv
      dsimp only at hz hr
      have HR := hide hr
      clear hr hz
      have HX1 := hide hs1
      have HX3 := hide hs3
      clear hs1 hs3
      have HFR := hide ((unhide HF).mk (unhide HM))
      have D0 := hide d0
      have D1 := hide d1
      have D2 := hide d2
      clear hcs d0 d1 d2
      have hqq : q + (2 + args.length) ≤ 100000000000 := by have := unhide HQ; have := unhide HX1; have := unhide HX3; omega
      have HQN : Hid (q + (2 + args.length) ≤ k0 + sm mV (xs.take (j + 1))) := hide (by have := unhide HQ; have := unhide HX1; omega)
      have g0_0 := unhide D0
      have f0_0 := unhide HFR b (off + j * 3) hbl hbn
      have G0_0 := hide g0_0
      have g0_1 := unhide D1
      have f0_1 := unhide HFR b (off + j * 3 + 1) hbl hbn
      have G0_1 := hide g0_1
      have g0_2 := unhide D2
      have G0_2 := hide g0_2
      go_wp2_with fail
      refine (markInts_any lo n a' cap' args.length (q + 1 + 1) _ ((unhide HR).ak ((Mk.set (unhide G0_0) (akI _ _) hbl hbn).trans (Mk.set ((cell_other _ _ _ _ _ (by omega)).trans (unhide G0_1)) (akI _ _) hbl hbn))) ((unhide HFR).mk ((Mk.set (unhide G0_0) (akI _ _) hbl hbn).trans (Mk.set ((cell_other _ _ _ _ _ (by omega)).trans (unhide G0_1)) (akI _ _) hbl hbn))) (by simpa [World.setCell] using unhide HN0) (unhide HLO) (by omega) (by omega)).mono ?_
      rintro r w1 ⟨q1, rfl, ha1, hc1, hm1⟩
      have HN1 := hide (Nat.le_trans (show n ≤ _ from (by simpa [World.setCell] using unhide HN0)) hm1.size)
      have HM1 := hide (((Mk.set (unhide G0_0) (akI _ _) hbl hbn).trans (Mk.set ((cell_other _ _ _ _ _ (by omega)).trans (unhide G0_1)) (akI _ _) hbl hbn)).trans hm1)
      clear hm1 g0_0 g0_1 g0_2 f0_0 f0_1
      go_wp2
      go_roundw
      case rel =>
        refine ⟨j + 1, q1, by omega, by go_num, by go_num, by omega, hide ?_, by omega, hide ?_⟩
        · have := unhide HQN; omega
        · refine (unhide HM).trans ?_
          exact (unhide HM1)
      case measure => simp [intOf]; omega
    · have HE : Hid (q ≤ k0 + sm mV xs) := hide (by
        have := unhide HQ
        rw [List.take_of_length_le (by omega)] at this
        omega)
      go_wp2
      go_ret
      exact ⟨q, rfl, by omega, unhide HE, unhide HM⟩
end Go.Proofs.Ytjnahhalgckggaa
