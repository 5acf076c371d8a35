/- The walk of container/heap's Push at a graphHeap. Conditions: the heap's row is in a block of its own, a heap. -/
import Derived.Test.YtgdeehldpmfpgaaQw
namespace Go.Proofs.Ytgdeehldpmfpgaa
open Go.RowKit Go.PlainAid

theorem hup_int {base L o : Nat} {so : Option Addr} {cp : Nat} {xs : List ByteArray} {w : World} {N n : Nat} (hN : xs.length = N) (hc : w.cell? ⟨L, o, none⟩ = some (.slice so N cp)) (hL : L < base) (h : HRow w base so cp xs) (hj : n < N) (hu : UpF (atF xs) N n) (hx : N ≤ 8) (x : Int) (ex : x = n) :
    Calls Try.prog 66 #[.iface 77 (.pointer (some ⟨L, o, none⟩)), .int .i64 x] w fun r w' => r = .returned (.tuple #[]) ∧ Sifted w base so cp N xs w' := by
  subst hN ex
  exact hup_any base L o so cp xs n w hc hL h hj hu hx

set_option maxRecDepth 100000 in
set_option maxHeartbeats 2000000 in
theorem hpush_any (base L o : Nat) (so : Option Addr) (cp : Nat) (xs : List ByteArray) (s : ByteArray) (n : Nat) (w : World) (hc : w.cell? ⟨L, o, none⟩ = some (.slice so n cp)) (hf : w.frozen? ⟨L, o, none⟩ = false) (hL : L < base) (hLw : L < w.heap.size) (hbw : base ≤ w.heap.size) (h : HRow w base so cp xs) (hN : xs.length = n) (hx : n ≤ 7) (hh : HeapF (atF xs) xs.length) :
    Calls Try.prog 59 #[.iface 77 (.pointer (some ⟨L, o, none⟩)), .iface 9 (.string s)] w fun r w' => r = .returned (.tuple #[]) ∧ ∃ zs : List ByteArray, zs.Perm (xs ++ [s]) ∧ HeapF (atF zs) zs.length ∧ Pushed w base L o so cp n zs w' := by
  have hu := UpF.start (s := s) hh
  have hlen : (xs ++ [s]).length = n + 1 := by simp [hN]
  rw [hN] at hu
  have HU := hide hu
  have HPM := hide (hpushm_any base L o so cp xs s w (by rw [hN]; exact hc) hf hL hLw hbw h (by omega))
  rw [hN] at HPM
  have M0 : (method 244 77 (.pointer (some ⟨L, o, none⟩)) "Push").run Try.prog w = .ok (116, .pointer (some ⟨L, o, none⟩)) w := m_ptr mrow_push ⟨L, o, none⟩ _ w
  have HLN := hide hlen
  clear hc hf h hu hh hlen
  go_enter Try.func59, Try.ntmps59
  go_wp2_with fail
  refine (unhide HPM).mono ?_
  rintro r w1 ⟨rfl, so', cp', hr1, hc1, hso, hk1⟩
  rw [unhide HLN] at hc1
  have M1 : (method 244 77 (.pointer (some ⟨L, o, none⟩)) "Len").run Try.prog w1 = .ok (33, .slice so' (n + 1) cp') w1 := m_val mrow_len L o so' (n + 1) cp' _ w1 hc1
  have HUP := hide (hup_int (unhide HLN) hc1 hL hr1 (Nat.lt_succ_self n) (unhide HU) (by omega))
  have HC1 := hide hc1
  have HR1 := hide hr1
  have HSO := hide hso
  have HK1 := hide hk1
  clear hr1 hc1 hso hk1 HPM M0
  go_wp2_with fail
  refine (hlen_any _ _ _ _).mono ?_
  rintro r w0 ⟨rfl, rfl⟩
  go_wp2_with fail
  refine (unhide HUP _ (by first | rfl | omega)).mono ?_
  rintro r w2 ⟨rfl, zs, hz1, hz2, hz3, hz4, hz5, g, hg, hgr⟩
  have HZ : Hid (∃ zs : List ByteArray, zs.Perm (xs ++ [s]) ∧ HeapF (atF zs) zs.length ∧ Pushed w base L o so cp n zs w2) := hide (by
    have hzl : zs.length = n + 1 := hz1.trans (unhide HLN)
    have hbg : base ≤ g := by
      have := (unhide HR1).lt g (by rw [hg]; rfl)
      exact this.1
    refine ⟨zs, hz2, by rw [hzl]; exact hz4, so', cp', hz5, ?_, unhide HSO, (unhide HK1).trans (Kept.of_grown hgr (Nat.lt_of_lt_of_le hLw (unhide HK1).size) (by intro e; have := Option.some.inj e; omega)) ?_⟩
    · rw [hzl]
      exact hp_cell (unhide HC1) hL hbg hgr
    · rcases unhide HSO with e | ⟨H, e, hH⟩
      · left
        rw [← e, hg]
        rfl
      · right
        rw [hg] at e
        have := Option.some.inj e
        injection this with e1 _ _
        exact ⟨g, rfl, by rw [e1]; exact hH⟩)
  clear hz1 hz2 hz3 hz4 hz5 hg hgr
  go_wp2
  go_end0
  exact ⟨rfl, unhide HZ⟩
end Go.Proofs.Ytgdeehldpmfpgaa
