/- The walks of szCodeFun, eqCodeFun, toCodeFun. No conditions. -/
import Derived.Test.YtakcpfmpaopfdaaCf
namespace Go.Proofs.Ytakcpfmpaopfdaa
open Go.RowKit Go.PlainAid

set_option maxHeartbeats 1000000 in
theorem szCodeFun_any (lo : Nat) : SzCf lo := by
  intro v f w left hF h0 h1
  obtain ⟨nm, pub, args, ty, sl, code⟩ := f
  obtain ⟨aa, ca, ba, cb, rfl, ⟨hs1, hs2, hs3⟩, ha, hb⟩ := hF
  dsimp only at hs1 hs2 hs3 ha hb ⊢
  have HA := hide (fun (w' : World) (left : Int) => szIntS_any aa ca args w' left hs2)
  have HE := hide (fun (w' : World) (left : Int) => szCodeInsS_any ba cb code w' left hs3)
  unfold maxLen at hs1 hs2 hs3
  show Calls Try.prog 29 #[.agg #[Value.string nm, .bool pub, .slice aa args.length ca, .int .i64 ty, .int .i64 sl, .slice ba code.length cb], .int .i64 left] w fun r w' => r = .returned (.int .i64 (leftI left (nm.size + args.length + code.length))) ∧ Below w.heap.size w w'
  obtain ⟨A, hA⟩ : ∃ A, args.length = A := ⟨_, rfl⟩
  obtain ⟨Bw, hB⟩ : ∃ Bw, code.length = Bw := ⟨_, rfl⟩
  rw [hA] at HA hs2 ⊢
  rw [hB] at HE hs3 ⊢
  clear ha hb hA hB
  by_cases g1 : left < (nm.size : Int)
  · have HF := hide (left_no (left := left) (n := nm.size + A + Bw) (by omega))
    go_enter Try.func29, Try.ntmps29
    go_wp2
    go_ret
    exact ⟨ret_int (unhide HF).symm, (Below.refl _ _).alloc (Nat.le_refl _) _⟩
  obtain ⟨L, hL⟩ := Int.eq_ofNat_of_zero_le (show 0 ≤ left - nm.size by omega)
  have hL2 : L ≤ 1048576 := by omega
  go_enter Try.func29, Try.ntmps29
  go_wp2_with fail
  refine (unhide HA _ _ (by omega) (by omega)).mono ?_
  rintro r w2 ⟨rfl, hb2⟩
  have hB2 := ((Below.refl w.heap.size w).alloc (Nat.le_refl _) _).trans (hb2.mono (by simp))
  have p5 : w2.cell? ⟨w.heap.size, 5, none⟩ = some (.slice ba Bw cb) := (hb2.cell (p := ⟨w.heap.size, 5, none⟩) (by simp)).trans (alloc_cell _ _ _ _)
  have HB2 := hide hB2
  clear hb2 hB2
  by_cases hw : A ≤ L
  · have el : leftI (L : Int) A = ((L - A : Nat) : Int) := by rw [left_yes (by omega)]; omega
    rw [el]
    obtain ⟨M, hM⟩ : ∃ M, L - A = M := ⟨_, rfl⟩
    rw [hM]
    have hM2 : M ≤ 1048576 := by omega
    clear el
    go_wp2_with fail
    refine (unhide HE _ _ (by omega) (by omega)).mono ?_
    rintro r w3 ⟨rfl, hb3⟩
    have HB3 := hide ((unhide HB2).trans (hb3.mono (unhide HB2).size))
    clear hb3 HB2
    by_cases hw2 : Bw ≤ M
    · have el : leftI (M : Int) Bw = ((M - Bw : Nat) : Int) := by rw [left_yes (by omega)]; omega
      have HF : Hid (leftI left (nm.size + A + Bw) = ((M - Bw : Nat) : Int)) := hide (by rw [left_yes (by omega)]; omega)
      rw [el]
      obtain ⟨K, hK⟩ : ∃ K, M - Bw = K := ⟨_, rfl⟩
      rw [hK] at HF ⊢
      clear el hw2 hK
      go_wp2
      go_ret
      exact ⟨ret_int (unhide HF).symm, unhide HB3⟩
    · have el : leftI (M : Int) Bw = -1 := left_no (by omega)
      have HF : Hid (leftI left (nm.size + A + Bw) = -1) := hide (left_no (by omega))
      rw [el]
      clear el hw2
      go_wp2
      go_ret
      exact ⟨ret_int (unhide HF).symm, unhide HB3⟩
  · have el : leftI (L : Int) A = -1 := left_no (by omega)
    have HF : Hid (leftI left (nm.size + A + Bw) = -1) := hide (left_no (by omega))
    rw [el]
    clear el hw
    go_wp2
    go_ret
    exact ⟨ret_int (unhide HF).symm, unhide HB2⟩

set_option maxHeartbeats 1000000 in
theorem eqCodeFun_any (lo lo' : Nat) : EqCf lo lo' := by
  intro v v' f w hF hF'
  obtain ⟨nm, pub, args, ty, sl, code⟩ := f
  obtain ⟨aa, ca, ba, cb, rfl, ⟨hs1, hs2, hs3⟩, ha, hb⟩ := hF
  obtain ⟨aa', ca', ba', cb', rfl, _, ha', hb'⟩ := hF'
  dsimp only at hs1 hs2 hs3 ha hb ha' hb' ⊢
  have HA := hide (fun (w' : World) (hk : Below w.heap.size w w') => eqIntS_any lo lo' aa aa' ca ca' args w' hs2 (ha.kept hk hk.size) (ha'.kept hk hk.size))
  have HE := hide (fun (w' : World) (hk : Below w.heap.size w w') => eqTreeCiS_of lo lo' (eqCodeIns_any lo lo') ba ba' cb cb' code w' hs3 (hb.kept hk hk.size) (hb'.kept hk hk.size))
  clear ha hb ha' hb' hs1 hs2 hs3
  have q1 : (nm.toList != nm.toList) = false := by simp
  have q2 : (pub != pub) = false := by simp
  have q3 : (ty != ty) = false := by simp
  have q4 : (sl != sl) = false := by simp
  show Calls Try.prog 34 #[.agg #[Value.string nm, .bool pub, .slice aa args.length ca, .int .i64 ty, .int .i64 sl, .slice ba code.length cb], .agg #[Value.string nm, .bool pub, .slice aa' args.length ca', .int .i64 ty, .int .i64 sl, .slice ba' code.length cb']] w fun r w' => r = .returned (.bool true) ∧ Below w.heap.size w w'
  go_enter Try.func34, Try.ntmps34
  go_wp2_with fail
  refine (unhide HA _ (((Below.refl _ w).alloc (Nat.le_refl _) _).alloc (by simp) _)).mono ?_
  rintro r w2 ⟨rfl, hb2⟩
  have hB2 := ((((Below.refl w.heap.size w).alloc (Nat.le_refl _) _).alloc (by simp) _).trans (hb2.mono (by simp; omega)))
  have hc1 : ∀ i, w2.cell? ⟨w.heap.size, i, none⟩ = (#[Value.string nm, .bool pub, .slice aa args.length ca, .int .i64 ty, .int .i64 sl, .slice ba code.length cb] : Array Value)[i]? := fun i => (hb2.cell (p := ⟨w.heap.size, i, none⟩) (by simp; omega)).trans (((Below.refl _ _).alloc (Nat.le_refl _) _).cell (p := ⟨w.heap.size, i, none⟩) (by simp) |>.trans (alloc_cell _ _ _ _))
  have hc2 : ∀ i, w2.cell? ⟨w.heap.size + 1, i, none⟩ = (#[Value.string nm, .bool pub, .slice aa' args.length ca', .int .i64 ty, .int .i64 sl, .slice ba' code.length cb'] : Array Value)[i]? := fun i => (hb2.cell (p := ⟨w.heap.size + 1, i, none⟩) (by simp)).trans (by
    have := alloc_cell (w.alloc (.cells #[Value.string nm, .bool pub, .slice aa args.length ca, .int .i64 ty, .int .i64 sl, .slice ba code.length cb] 60)) #[Value.string nm, .bool pub, .slice aa' args.length ca', .int .i64 ty, .int .i64 sl, .slice ba' code.length cb'] 60 i
    rw [alloc_size] at this
    exact this)
  have p3 : w2.cell? ⟨w.heap.size, 3, none⟩ = some (.int .i64 ty) := hc1 3
  have p4 : w2.cell? ⟨w.heap.size, 4, none⟩ = some (.int .i64 sl) := hc1 4
  have p5 : w2.cell? ⟨w.heap.size, 5, none⟩ = some (.slice ba code.length cb) := hc1 5
  have r3 : w2.cell? ⟨w.heap.size + 1, 3, none⟩ = some (.int .i64 ty) := hc2 3
  have r4 : w2.cell? ⟨w.heap.size + 1, 4, none⟩ = some (.int .i64 sl) := hc2 4
  have r5 : w2.cell? ⟨w.heap.size + 1, 5, none⟩ = some (.slice ba' code.length cb') := hc2 5
  have HB2 := hide hB2
  clear hb2 hB2 hc1 hc2
  go_wp2_with fail
  refine (unhide HE _ (unhide HB2)).mono ?_
  rintro r w3 ⟨rfl, hb3⟩
  have HB3 := hide ((unhide HB2).trans (hb3.mono (unhide HB2).size))
  clear hb3 HB2
  go_wp2
  go_ret
  exact ⟨rfl, unhide HB3⟩
end Go.Proofs.Ytakcpfmpaopfdaa
