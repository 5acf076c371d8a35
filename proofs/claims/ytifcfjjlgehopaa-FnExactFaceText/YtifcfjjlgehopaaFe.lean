/- The walks of szFaceSig, eqFaceSig and toFaceSig. No conditions. -/
import Derived.Test.YtifcfjjlgehopaaFd
namespace Go.Proofs.Ytifcfjjlgehopaa
open Go.RowKit Go.PlainAid

set_option maxHeartbeats 1000000 in
theorem szFaceSig_any (lo : Nat) : SzSig lo := by
  intro v f w left hF h0 h1
  obtain ⟨nm, args, ty⟩ := f
  obtain ⟨aa, ca, rfl, ⟨hs1, hs2⟩, ha⟩ := hF
  dsimp only at hs1 hs2 ha ⊢
  have HA := hide (fun (w' : World) (left : Int) => szIntS_any aa ca args w' left hs2)
  unfold maxLen at hs1 hs2
  show Calls Try.prog 18 #[.agg #[.string nm, .slice aa args.length ca, .int .i64 ty], .int .i64 left] w fun r w' => r = .returned (.int .i64 (leftI left (nm.size + args.length))) ∧ Below w.heap.size w w'
  obtain ⟨A, hA⟩ : ∃ A, args.length = A := ⟨_, rfl⟩
  rw [hA] at HA hs2 ⊢
  clear ha hA
  by_cases g1 : left < (nm.size : Int)
  · have HF := hide (left_no (left := left) (n := nm.size + A) (by omega))
    go_enter Try.func18, Try.ntmps18
    go_wp2
    go_ret
    exact ⟨ret_int (unhide HF).symm, (Below.refl _ _).alloc (Nat.le_refl _) _⟩
  obtain ⟨L, hL⟩ := Int.eq_ofNat_of_zero_le (show 0 ≤ left - nm.size by omega)
  have hL2 : L ≤ 1048576 := by omega
  go_enter Try.func18, Try.ntmps18
  go_wp2_with fail
  refine (unhide HA _ _ (by omega) (by omega)).mono ?_
  rintro r w2 ⟨rfl, hb2⟩
  have HB2 := hide (((Below.refl w.heap.size w).alloc (Nat.le_refl _) _).trans (hb2.mono (by simp)))
  clear hb2
  by_cases hw : A ≤ L
  · have el : leftI (L : Int) A = ((L - A : Nat) : Int) := by rw [left_yes (by omega)]; omega
    have HF : Hid (leftI left (nm.size + A) = ((L - A : Nat) : Int)) := hide (by rw [left_yes (by omega)]; omega)
    rw [el]
    obtain ⟨K, hK⟩ : ∃ K, L - A = K := ⟨_, rfl⟩
    rw [hK] at HF ⊢
    clear el hw hK
    go_wp2
    go_ret
    exact ⟨ret_int (unhide HF).symm, unhide HB2⟩
  · have el : leftI (L : Int) A = -1 := left_no (by omega)
    have HF : Hid (leftI left (nm.size + A) = -1) := hide (left_no (by omega))
    rw [el]
    clear el hw
    go_wp2
    go_ret
    exact ⟨ret_int (unhide HF).symm, unhide HB2⟩

set_option maxHeartbeats 1000000 in
theorem eqFaceSig_any (lo lo' : Nat) : EqSig lo lo' := by
  intro v v' f w hF hF'
  obtain ⟨nm, args, ty⟩ := f
  obtain ⟨aa, ca, rfl, ⟨hs1, hs2⟩, ha⟩ := hF
  obtain ⟨aa', ca', rfl, _, ha'⟩ := hF'
  dsimp only at hs1 hs2 ha ha' ⊢
  have HA := hide (fun (w' : World) (hb : Below w.heap.size w w') => eqIntS_any lo lo' aa aa' ca ca' args w' hs2 (ha.kept hb hb.size) (ha'.kept hb hb.size))
  clear ha ha' hs1 hs2
  have q1 : (nm.toList != nm.toList) = false := by simp
  have q3 : (ty != ty) = false := by simp
  show Calls Try.prog 25 #[.agg #[.string nm, .slice aa args.length ca, .int .i64 ty], .agg #[.string nm, .slice aa' args.length ca', .int .i64 ty]] w fun r w' => r = .returned (.bool true) ∧ Below w.heap.size w w'
  go_enter Try.func25, Try.ntmps25
  go_wp2_with fail
  refine (unhide HA _ (((Below.refl _ w).alloc (Nat.le_refl _) _).alloc (by simp) _)).mono ?_
  rintro r w2 ⟨rfl, hb2⟩
  have hB2 := ((((Below.refl w.heap.size w).alloc (Nat.le_refl _) _).alloc (by simp) _).trans (hb2.mono (by simp; omega)))
  have p2 : w2.cell? ⟨w.heap.size, 2, none⟩ = some (.int .i64 ty) := (hb2.cell (p := ⟨w.heap.size, 2, none⟩) (by simp; omega)).trans (((Below.refl _ _).alloc (Nat.le_refl _) _).cell (p := ⟨w.heap.size, 2, none⟩) (by simp) |>.trans (alloc_cell _ _ _ _))
  have r2 : w2.cell? ⟨w.heap.size + 1, 2, none⟩ = some (.int .i64 ty) := (hb2.cell (p := ⟨w.heap.size + 1, 2, none⟩) (by simp)).trans (by
    have := alloc_cell (w.alloc (.cells #[.string nm, .slice aa args.length ca, .int .i64 ty] 48)) #[.string nm, .slice aa' args.length ca', .int .i64 ty] 48 2
    rw [alloc_size] at this
    exact this)
  have HB2 := hide hB2
  clear hb2 hB2
  go_wp2
  go_ret
  exact ⟨rfl, unhide HB2⟩

set_option maxHeartbeats 2000000 in
theorem toFaceSig_any (lo : Nat) : ToSig lo := by
  intro v f w hF ht
  obtain ⟨nm, args, ty⟩ := f
  obtain ⟨aa, ca, rfl, hz, ha⟩ := hF
  dsimp only at hz ha ⊢
  have ht' : nm.size + args.length ≤ 1048576 := ht
  have HA := hide (fun (w' : World) (hb : Below w.heap.size w w') => toIntS_any lo aa ca args w' (ha.kept hb hb.size) (by omega))
  have HZ := hide hz
  clear ha ht ht' hz
  go_enter Try.func20, Try.ntmps20
  go_wp2_with fail
  refine (unhide HA _ ((((Below.refl _ w).alloc (Nat.le_refl _) _).alloc (by simp) _).alloc (by simp; omega) _)).mono ?_
  rintro r w2 ⟨a', cap', rfl, hcap, hk2, hb2⟩
  have hB2 : Below w.heap.size w w2 := (((((Below.refl _ w).alloc (Nat.le_refl _) _).alloc (by simp) _).alloc (by simp; omega) _)).trans (hb2.mono (by simp; omega))
  rw [alloc_size, alloc_size, alloc_size] at hk2
  have n1 : Blk w2 w.heap.size [Value.string nm, Value.slice aa args.length ca, Value.int .i64 ty] := (((Blk.new w [Value.string nm, Value.slice aa args.length ca, Value.int .i64 ty] 46).old _ (by simp only [alloc_size]; omega)).old _ (by simp only [alloc_size]; omega)).below hb2 (by simp only [alloc_size]; omega)
  have n2 : Blk w2 (w.heap.size + 1) [Value.string ⟨#[]⟩, Value.slice none 0 0, Value.int .i64 0] := by
    have := ((Blk.new (w.alloc (.cells #[Value.string nm, Value.slice aa args.length ca, Value.int .i64 ty] 46)) [Value.string ⟨#[]⟩, Value.slice none 0 0, Value.int .i64 0] 48).old (.cells #[.string nm, .slice none 0 0, .int .i64 0] 48) (by simp only [alloc_size]; omega)).below hb2 (by simp only [alloc_size]; omega)
    rw [alloc_size] at this
    exact this
  have n3 : Blk w2 (w.heap.size + 1 + 1) [.string nm, .slice none 0 0, .int .i64 0] := by
    have := (Blk.new ((w.alloc (.cells #[Value.string nm, Value.slice aa args.length ca, Value.int .i64 ty] 46)).alloc (.cells #[Value.string ⟨#[]⟩, Value.slice none 0 0, Value.int .i64 0] 48)) [.string nm, .slice none 0 0, .int .i64 0] 48).below hb2 (by simp only [alloc_size]; omega)
    rw [alloc_size, alloc_size] at this
    exact this
  have hS2 : w.heap.size + 3 ≤ w2.heap.size := by have := hb2.size; rw [alloc_size, alloc_size, alloc_size] at this; omega
  have p2 : w2.cell? ⟨w.heap.size, 2, none⟩ = some (Value.int .i64 ty) := n1.1 2
  have o0 : w2.cell? ⟨w.heap.size + 1 + 1, 0, none⟩ = some (.string nm) := n3.1 0
  have o1 : w2.cell? ⟨w.heap.size + 1 + 1, 1, none⟩ = some (.slice none 0 0) := n3.1 1
  have o2 : w2.cell? ⟨w.heap.size + 1 + 1, 2, none⟩ = some (.int .i64 0) := n3.1 2
  have g1 : w2.frozen? ⟨w.heap.size + 1 + 1, 1, none⟩ = false := n3.2 1
  have g2 : w2.frozen? ⟨w.heap.size + 1 + 1, 2, none⟩ = false := n3.2 2
  have q0 : w2.cell? ⟨w.heap.size + 1, 0, none⟩ = some (Value.string ⟨#[]⟩) := n2.1 0
  have q1 : w2.cell? ⟨w.heap.size + 1, 1, none⟩ = some (Value.slice none 0 0) := n2.1 1
  have q2 : w2.cell? ⟨w.heap.size + 1, 2, none⟩ = some (Value.int .i64 0) := n2.1 2
  have f0 : w2.frozen? ⟨w.heap.size + 1, 0, none⟩ = false := n2.2 0
  have f1 : w2.frozen? ⟨w.heap.size + 1, 1, none⟩ = false := n2.2 1
  have f2 : w2.frozen? ⟨w.heap.size + 1, 2, none⟩ = false := n2.2 2
  have HN := hide (((((n2.other (w.heap.size + 1 + 1) 1 (.slice a' args.length cap') (by omega)).other (w.heap.size + 1 + 1) 2 (.int .i64 ty) (by omega)).set 0 (.string nm) (by simp)).set 1 (.slice a' args.length cap') (by simp)).set 2 (.int .i64 ty) (by simp))
  have HFB := hide (((((((Below.refl w.heap.size w2).setCell (p := ⟨w.heap.size + 1 + 1, 1, none⟩) (by simp; omega) (.slice a' args.length cap')).setCell (p := ⟨w.heap.size + 1 + 1, 2, none⟩) (by simp; omega) (.int .i64 ty)).setCell (p := ⟨w.heap.size + 1, 0, none⟩) (by simp) (.string nm)).setCell (p := ⟨w.heap.size + 1, 1, none⟩) (by simp) (.slice a' args.length cap')).setCell (p := ⟨w.heap.size + 1, 2, none⟩) (by simp) (.int .i64 ty)))
  have HB2 := hide hB2
  have HK2 := hide hk2
  have HS2 := hide hS2
  clear n1 n2 n3 hb2 hB2 hk2 hS2
  go_wp2
  obtain ⟨F, hF⟩ : ∃ F, F = (((((w2.setCell ⟨w.heap.size + 1 + 1, 1, none⟩ (.slice a' args.length cap')).setCell ⟨w.heap.size + 1 + 1, 2, none⟩ (.int .i64 ty)).setCell ⟨w.heap.size + 1, 0, none⟩ (.string nm)).setCell ⟨w.heap.size + 1, 1, none⟩ (.slice a' args.length cap')).setCell ⟨w.heap.size + 1, 2, none⟩ (.int .i64 ty)) := ⟨_, rfl⟩
  have hFO : Same (w.heap.size + 3) w2.heap.size w2 F := fun b h1 h2 => by rw [hF, Below.heap_setCell _ _ _ _ (by simp; omega), Below.heap_setCell _ _ _ _ (by simp; omega), Below.heap_setCell _ _ _ _ (by simp; omega), Below.heap_setCell _ _ _ _ (by simp; omega), Below.heap_setCell _ _ _ _ (by simp; omega)]
  have hFS : F.heap.size = w2.heap.size := by rw [hF]; simp [World.setCell]
  rw [← hF] at HN HFB ⊢
  have e := (unhide HN).1
  have e0 : F.cell? ⟨w.heap.size + 1, 0, none⟩ = some (Value.string nm) := e 0
  have e1 : F.cell? ⟨w.heap.size + 1, 1, none⟩ = some (Value.slice a' args.length cap') := e 1
  have e2 : F.cell? ⟨w.heap.size + 1, 2, none⟩ = some (Value.int .i64 ty) := e 2
  refine bodyPost_ret (v := .agg #[Value.string nm, Value.slice a' args.length cap', Value.int .i64 ty]) (by simp [results, Try.results20, go_sem, e0, e1, e2]) rfl ?_
  refine ⟨_, _, _, rfl, ⟨a', cap', rfl, unhide HZ, ?_⟩, (unhide HB2).trans (unhide HFB)⟩
  exact (unhide HK2).same hFO (by omega) (by omega)
end Go.Proofs.Ytifcfjjlgehopaa
