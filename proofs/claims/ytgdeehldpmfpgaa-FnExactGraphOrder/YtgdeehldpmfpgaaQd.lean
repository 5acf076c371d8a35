/- The walks of szGraphNode, eqGraphNode and toGraphNode. No conditions. -/
import Derived.Test.YtgdeehldpmfpgaaQc
namespace Go.Proofs.Ytgdeehldpmfpgaa
open Go.RowKit Go.PlainAid

set_option maxHeartbeats 1000000 in
theorem szGraphNode_any (lo : Nat) : SzGn lo := by
  intro v f w left hF h0 h1
  obtain ⟨md, sigs⟩ := f
  obtain ⟨aa, ca, rfl, ⟨hs1, hs2, hs3⟩, ha⟩ := hF
  dsimp only at hs1 hs2 ha ⊢
  show Calls Try.prog 48 #[.agg #[.string md, .slice aa sigs.length ca], .int .i64 left] w fun r w' => r = .returned (.int .i64 (leftI left (md.size + (sigs.length + wtWds sigs)))) ∧ Below w.heap.size w w'
  have HA := hide (fun (w' : World) (hb : Below w.heap.size w w') (l : Int) (k0 : 0 ≤ l) (k1 : l ≤ 1048576) => szWds_any lo aa ca sigs w' l (ha.kept hb hb.size) hs2 hs3 k0 k1)
  clear ha hs2 hs3
  unfold maxLen at hs1
  obtain ⟨A, hA⟩ : ∃ A, sigs.length + wtWds sigs = A := ⟨_, rfl⟩
  rw [hA] at HA ⊢
  clear hA
  by_cases hb : left < (md.size : Int)
  · have HF := hide (left_no (left := left) (n := md.size + A) (by omega))
    go_enter Try.func48, Try.ntmps48
    go_wp2
    go_ret
    exact ⟨ret_int (unhide HF).symm, (Below.refl _ w).alloc (Nat.le_refl _) _⟩
  obtain ⟨L, hL⟩ := Int.eq_ofNat_of_zero_le (show 0 ≤ left - md.size by omega)
  have hL2 : L ≤ 1048576 := by omega
  have HL := hide hL
  have HC := hide (unhide HA _ ((Below.refl _ w).alloc (Nat.le_refl _) (.cells #[.string md, .slice aa sigs.length ca] 69)) (L : Int) (by omega) (by omega))
  clear HA
  have hL3 : left - (md.size : Int) = (L : Int) := hL
  clear hL
  go_enter Try.func48, Try.ntmps48
  go_wp2_with fail
  refine (unhide HC).mono ?_
  rintro r w2 ⟨rfl, hb2⟩
  have HB2 := hide (((Below.refl w.heap.size w).alloc (Nat.le_refl _) _).trans (hb2.mono (by simp)))
  clear hb2 HC hL3
  by_cases hw : A ≤ L
  · have el : leftI (L : Int) A = ((L - A : Nat) : Int) := by rw [left_yes (by omega)]; omega
    have HF : Hid (leftI left (md.size + A) = ((L - A : Nat) : Int)) := hide (by have := unhide HL; rw [left_yes (by omega)]; omega)
    rw [el]
    obtain ⟨K, hK⟩ : ∃ K, L - A = K := ⟨_, rfl⟩
    rw [hK] at HF ⊢
    clear el hw hK
    go_wp2
    go_ret
    exact ⟨ret_int (unhide HF).symm, unhide HB2⟩
  · have el : leftI (L : Int) A = -1 := left_no (by omega)
    have HF : Hid (leftI left (md.size + A) = -1) := hide (left_no (by have := unhide HL; omega))
    rw [el]
    clear el hw
    go_wp2
    go_ret
    exact ⟨ret_int (unhide HF).symm, unhide HB2⟩

set_option maxHeartbeats 1000000 in
theorem eqGraphNode_any (lo lo' : Nat) : EqGn lo lo' := by
  intro v v' f w hF hF'
  obtain ⟨md, sigs⟩ := f
  obtain ⟨aa, ca, rfl, ⟨hs1, hs2, hs3⟩, ha⟩ := hF
  obtain ⟨aa', ca', rfl, _, ha'⟩ := hF'
  dsimp only at hs1 hs2 ha ha' ⊢
  have HA := hide (fun (w' : World) (hb : Below w.heap.size w w') => eqWds_any lo lo' aa aa' ca ca' sigs w' hs2 (ha.kept hb hb.size) (ha'.kept hb hb.size))
  clear ha ha' hs1 hs2
  have q1 : (md.toList != md.toList) = false := by simp
  show Calls Try.prog 50 #[.agg #[.string md, .slice aa sigs.length ca], .agg #[.string md, .slice aa' sigs.length ca']] w fun r w' => r = .returned (.bool true) ∧ Below w.heap.size w w'
  go_enter Try.func50, Try.ntmps50
  go_wp2_with fail
  refine (unhide HA _ (((Below.refl _ w).alloc (Nat.le_refl _) _).alloc (by simp) _)).mono ?_
  rintro r w2 ⟨rfl, hb2⟩
  have HB2 := hide ((((Below.refl w.heap.size w).alloc (Nat.le_refl _) _).alloc (by simp) _).trans (hb2.mono (by simp; omega)))
  clear hb2
  go_wp2
  go_ret
  exact ⟨rfl, unhide HB2⟩

set_option maxHeartbeats 2000000 in
theorem toGraphNode_any (lo : Nat) : ToGn lo := by
  intro v f w hF ht
  obtain ⟨md, sigs⟩ := f
  obtain ⟨aa, ca, rfl, hz, ha⟩ := hF
  dsimp only at hz ha ⊢
  have ht' : md.size + (sigs.length + wtWds sigs) ≤ 1048576 := ht
  have HA := hide (fun (w' : World) (hb : Below w.heap.size w w') => toWds_any lo aa ca sigs w' (ha.kept hb hb.size) (by omega))
  have HZ := hide hz
  clear ha ht ht' hz
  go_enter Try.func49, Try.ntmps49
  go_wp2_with fail
  refine (unhide HA _ ((((Below.refl _ w).alloc (Nat.le_refl _) _).alloc (by simp) _).alloc (by simp; omega) _)).mono ?_
  rintro r w2 ⟨a', cap', rfl, hcap, hk2, hb2⟩
  have hB2 : Below w.heap.size w w2 := (((((Below.refl _ w).alloc (Nat.le_refl _) _).alloc (by simp) _).alloc (by simp; omega) _)).trans (hb2.mono (by simp; omega))
  rw [alloc_size, alloc_size, alloc_size] at hk2
  have n2 : Blk w2 (w.heap.size + 1) [Value.string ⟨#[]⟩, Value.slice none 0 0] := by
    have := ((Blk.new (w.alloc (.cells #[Value.string md, Value.slice aa sigs.length ca] 69)) [Value.string ⟨#[]⟩, Value.slice none 0 0] 30).old (.cells #[.string md, .slice none 0 0] 30) (by simp only [alloc_size]; omega)).below hb2 (by simp only [alloc_size]; omega)
    rw [alloc_size] at this
    exact this
  have n3 : Blk w2 (w.heap.size + 1 + 1) [.string md, .slice none 0 0] := by
    have := (Blk.new ((w.alloc (.cells #[Value.string md, Value.slice aa sigs.length ca] 69)).alloc (.cells #[Value.string ⟨#[]⟩, Value.slice none 0 0] 30)) [.string md, .slice none 0 0] 30).below hb2 (by simp only [alloc_size]; omega)
    rw [alloc_size, alloc_size] at this
    exact this
  have hS2 : w.heap.size + 3 ≤ w2.heap.size := by have := hb2.size; rw [alloc_size, alloc_size, alloc_size] at this; omega
  have o0 : w2.cell? ⟨w.heap.size + 1 + 1, 0, none⟩ = some (.string md) := n3.1 0
  have o1 : w2.cell? ⟨w.heap.size + 1 + 1, 1, none⟩ = some (.slice none 0 0) := n3.1 1
  have g1 : w2.frozen? ⟨w.heap.size + 1 + 1, 1, none⟩ = false := n3.2 1
  have q0 : w2.cell? ⟨w.heap.size + 1, 0, none⟩ = some (Value.string ⟨#[]⟩) := n2.1 0
  have q1 : w2.cell? ⟨w.heap.size + 1, 1, none⟩ = some (Value.slice none 0 0) := n2.1 1
  have f0 : w2.frozen? ⟨w.heap.size + 1, 0, none⟩ = false := n2.2 0
  have f1 : w2.frozen? ⟨w.heap.size + 1, 1, none⟩ = false := n2.2 1
  have HN := hide ((((n2.other (w.heap.size + 1 + 1) 1 (.slice a' sigs.length cap') (by omega)).set 0 (.string md) (by simp)).set 1 (.slice a' sigs.length cap') (by simp)))
  have HFB := hide (((((Below.refl w.heap.size w2).setCell (p := ⟨w.heap.size + 1 + 1, 1, none⟩) (by simp; omega) (.slice a' sigs.length cap')).setCell (p := ⟨w.heap.size + 1, 0, none⟩) (by simp) (.string md)).setCell (p := ⟨w.heap.size + 1, 1, none⟩) (by simp) (.slice a' sigs.length cap')))
  have HB2 := hide hB2
  have HK2 := hide hk2
  have HS2 := hide hS2
  clear n2 n3 hb2 hB2 hk2 hS2
  go_wp2
  obtain ⟨F, hF⟩ : ∃ F, F = (((w2.setCell ⟨w.heap.size + 1 + 1, 1, none⟩ (.slice a' sigs.length cap')).setCell ⟨w.heap.size + 1, 0, none⟩ (.string md)).setCell ⟨w.heap.size + 1, 1, none⟩ (.slice a' sigs.length cap')) := ⟨_, rfl⟩
  have hFO : Same (w.heap.size + 3) w2.heap.size w2 F := fun b h1 h2 => by rw [hF, Below.heap_setCell _ _ _ _ (by simp; omega), Below.heap_setCell _ _ _ _ (by simp; omega), Below.heap_setCell _ _ _ _ (by simp; omega)]
  have hFS : F.heap.size = w2.heap.size := by rw [hF]; simp [World.setCell]
  rw [← hF] at HN HFB ⊢
  have e := (unhide HN).1
  have e0 : F.cell? ⟨w.heap.size + 1, 0, none⟩ = some (Value.string md) := e 0
  have e1 : F.cell? ⟨w.heap.size + 1, 1, none⟩ = some (Value.slice a' sigs.length cap') := e 1
  refine bodyPost_ret (v := .agg #[Value.string md, Value.slice a' sigs.length cap']) (by simp [results, Try.results49, go_sem, e0, e1]) rfl ?_
  refine ⟨_, _, rfl, ⟨a', cap', rfl, unhide HZ, ?_⟩, (unhide HB2).trans (unhide HFB)⟩
  exact (unhide HK2).same hFO (by omega) (by omega)
end Go.Proofs.Ytgdeehldpmfpgaa
