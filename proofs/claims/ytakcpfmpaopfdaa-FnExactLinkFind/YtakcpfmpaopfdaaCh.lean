/- The walk of toCodeFun. No conditions. -/
import Derived.Test.YtakcpfmpaopfdaaCg
namespace Go.Proofs.Ytakcpfmpaopfdaa
open Go.RowKit Go.PlainAid

set_option maxHeartbeats 2000000 in
theorem toCodeFun_any (lo : Nat) : ToCf lo := by
  intro v f w hF ht
  obtain ⟨nm, pub, args, ty, sl, code⟩ := f
  obtain ⟨aa, ca, ba, cb, rfl, hz, ha, hb⟩ := hF
  dsimp only at hz ha hb ⊢
  have ht' : nm.size + args.length + code.length ≤ 1048576 := ht
  have HA := hide (fun (w' : World) (hk : Below w.heap.size w w') => toIntS_any lo aa ca args w' (ha.kept hk hk.size) (by omega))
  have HE := hide (fun (w' : World) (hk : Below w.heap.size w w') => toTreeCiS_of lo (toCodeIns_any lo) ba cb code w' (hb.kept hk hk.size) (by rw [wtCis_zero]; omega))
  have HZ := hide hz
  clear ha hb ht ht' hz
  go_enter Try.func31, Try.ntmps31
  go_wp2_with fail
  refine (unhide HA _ ((((Below.refl _ w).alloc (Nat.le_refl _) _).alloc (by simp) _).alloc (by simp; omega) _)).mono ?_
  rintro r w2 ⟨a', cap', rfl, -, hk2, hb2⟩
  have hB2 : Below w.heap.size w w2 := (((((Below.refl _ w).alloc (Nat.le_refl _) _).alloc (by simp) _).alloc (by simp; omega) _)).trans (hb2.mono (by simp; omega))
  rw [alloc_size, alloc_size, alloc_size] at hk2
  have n1 : Blk w2 w.heap.size [Value.string nm, Value.bool pub, Value.slice aa args.length ca, Value.int .i64 ty, Value.int .i64 sl, Value.slice ba code.length cb] := (((Blk.new w [Value.string nm, Value.bool pub, Value.slice aa args.length ca, Value.int .i64 ty, Value.int .i64 sl, Value.slice ba code.length cb] 77).old _ (by simp only [alloc_size]; omega)).old _ (by simp only [alloc_size]; omega)).below hb2 (by simp only [alloc_size]; omega)
  have n2 : Blk w2 (w.heap.size + 1) [Value.string ⟨#[]⟩, Value.bool false, Value.slice none 0 0, Value.int .i64 0, Value.int .i64 0, Value.slice none 0 0] := by
    have := ((Blk.new (w.alloc (.cells #[Value.string nm, Value.bool pub, Value.slice aa args.length ca, Value.int .i64 ty, Value.int .i64 sl, Value.slice ba code.length cb] 77)) [Value.string ⟨#[]⟩, Value.bool false, Value.slice none 0 0, Value.int .i64 0, Value.int .i64 0, Value.slice none 0 0] 60).old (.cells #[Value.string nm, Value.bool pub, Value.slice none 0 0, Value.int .i64 0, Value.int .i64 0, Value.slice none 0 0] 60) (by simp only [alloc_size]; omega)).below hb2 (by simp only [alloc_size]; omega)
    rw [alloc_size] at this
    exact this
  have n3 : Blk w2 (w.heap.size + 1 + 1) [Value.string nm, Value.bool pub, Value.slice none 0 0, Value.int .i64 0, Value.int .i64 0, Value.slice none 0 0] := by
    have := (Blk.new ((w.alloc (.cells #[Value.string nm, Value.bool pub, Value.slice aa args.length ca, Value.int .i64 ty, Value.int .i64 sl, Value.slice ba code.length cb] 77)).alloc (.cells #[Value.string ⟨#[]⟩, Value.bool false, Value.slice none 0 0, Value.int .i64 0, Value.int .i64 0, Value.slice none 0 0] 60)) [Value.string nm, Value.bool pub, Value.slice none 0 0, Value.int .i64 0, Value.int .i64 0, Value.slice none 0 0] 60).below hb2 (by simp only [alloc_size]; omega)
    rw [alloc_size, alloc_size] at this
    exact this
  have hS2 : w.heap.size + 3 ≤ w2.heap.size := by have := hb2.size; rw [alloc_size, alloc_size, alloc_size] at this; omega
  have p3 : w2.cell? ⟨w.heap.size, 3, none⟩ = some (Value.int .i64 ty) := n1.1 3
  have p4 : w2.cell? ⟨w.heap.size, 4, none⟩ = some (Value.int .i64 sl) := n1.1 4
  have p5 : w2.cell? ⟨w.heap.size, 5, none⟩ = some (Value.slice ba code.length cb) := n1.1 5
  have o0 : w2.cell? ⟨w.heap.size + 1 + 1, 0, none⟩ = some (Value.string nm) := n3.1 0
  have o1 : w2.cell? ⟨w.heap.size + 1 + 1, 1, none⟩ = some (Value.bool pub) := n3.1 1
  have o2 : w2.cell? ⟨w.heap.size + 1 + 1, 2, none⟩ = some (Value.slice none 0 0) := n3.1 2
  have o3 : w2.cell? ⟨w.heap.size + 1 + 1, 3, none⟩ = some (Value.int .i64 0) := n3.1 3
  have o4 : w2.cell? ⟨w.heap.size + 1 + 1, 4, none⟩ = some (Value.int .i64 0) := n3.1 4
  have o5 : w2.cell? ⟨w.heap.size + 1 + 1, 5, none⟩ = some (Value.slice none 0 0) := n3.1 5
  have g2 : w2.frozen? ⟨w.heap.size + 1 + 1, 2, none⟩ = false := n3.2 2
  have g3 : w2.frozen? ⟨w.heap.size + 1 + 1, 3, none⟩ = false := n3.2 3
  have g4 : w2.frozen? ⟨w.heap.size + 1 + 1, 4, none⟩ = false := n3.2 4
  have N2 := hide n2
  have N3 := hide n3
  have HB2 := hide hB2
  have HK2 := hide hk2
  have HS2 := hide hS2
  clear n1 n2 n3 hb2 hB2 hk2 hS2
  go_wp2_with fail
  have hW : Below w.heap.size w (((w2.setCell ⟨w.heap.size + 1 + 1, 2, none⟩ (Value.slice a' args.length cap')).setCell ⟨w.heap.size + 1 + 1, 3, none⟩ (Value.int .i64 ty)).setCell ⟨w.heap.size + 1 + 1, 4, none⟩ (Value.int .i64 sl)) := ((((unhide HB2).setCell (p := ⟨w.heap.size + 1 + 1, 2, none⟩) (by simp; omega) (Value.slice a' args.length cap')).setCell (p := ⟨w.heap.size + 1 + 1, 3, none⟩) (by simp; omega) (Value.int .i64 ty)).setCell (p := ⟨w.heap.size + 1 + 1, 4, none⟩) (by simp; omega) (Value.int .i64 sl))
  have hW3 := ((((unhide N3).set 2 (Value.slice a' args.length cap') (by simp)).set 3 (Value.int .i64 ty) (by simp)).set 4 (Value.int .i64 sl) (by simp))
  have hW2 := ((((unhide N2).other (w.heap.size + 1 + 1) 2 (Value.slice a' args.length cap') (by omega)).other (w.heap.size + 1 + 1) 3 (Value.int .i64 ty) (by omega)).other (w.heap.size + 1 + 1) 4 (Value.int .i64 sl) (by omega))
  have hWs : (((w2.setCell ⟨w.heap.size + 1 + 1, 2, none⟩ (Value.slice a' args.length cap')).setCell ⟨w.heap.size + 1 + 1, 3, none⟩ (Value.int .i64 ty)).setCell ⟨w.heap.size + 1 + 1, 4, none⟩ (Value.int .i64 sl)).heap.size = w2.heap.size := by simp [World.setCell]
  have hWo : Same (w.heap.size + 3) w2.heap.size w2 (((w2.setCell ⟨w.heap.size + 1 + 1, 2, none⟩ (Value.slice a' args.length cap')).setCell ⟨w.heap.size + 1 + 1, 3, none⟩ (Value.int .i64 ty)).setCell ⟨w.heap.size + 1 + 1, 4, none⟩ (Value.int .i64 sl)) := fun b h1 h2 => by rw [Below.heap_setCell _ _ _ _ (by simp; omega), Below.heap_setCell _ _ _ _ (by simp; omega), Below.heap_setCell _ _ _ _ (by simp; omega)]
  generalize (((w2.setCell ⟨w.heap.size + 1 + 1, 2, none⟩ (Value.slice a' args.length cap')).setCell ⟨w.heap.size + 1 + 1, 3, none⟩ (Value.int .i64 ty)).setCell ⟨w.heap.size + 1 + 1, 4, none⟩ (Value.int .i64 sl)) = W' at hW hW3 hW2 hWs hWo ⊢
  refine (unhide HE W' hW).mono ?_
  rintro r w4 ⟨b', bcap', rfl, hE4, hb4⟩
  have hs3 := unhide HS2
  have m3 : Blk w4 (w.heap.size + 1 + 1) [Value.string nm, Value.bool pub, Value.slice a' args.length cap', Value.int .i64 ty, Value.int .i64 sl, Value.slice none 0 0] := Blk.below hW3 hb4 (by omega)
  have m2 : Blk w4 (w.heap.size + 1) [Value.string ⟨#[]⟩, Value.bool false, Value.slice none 0 0, Value.int .i64 0, Value.int .i64 0, Value.slice none 0 0] := Blk.below hW2 hb4 (by omega)
  clear p3 p4 p5 o0 o1 o2 o3 o4 o5 g2 g3 g4 N2 N3 hW3 hW2
  have o0 : w4.cell? ⟨w.heap.size + 1 + 1, 0, none⟩ = some (Value.string nm) := m3.1 0
  have o1 : w4.cell? ⟨w.heap.size + 1 + 1, 1, none⟩ = some (Value.bool pub) := m3.1 1
  have o2 : w4.cell? ⟨w.heap.size + 1 + 1, 2, none⟩ = some (Value.slice a' args.length cap') := m3.1 2
  have o3 : w4.cell? ⟨w.heap.size + 1 + 1, 3, none⟩ = some (Value.int .i64 ty) := m3.1 3
  have o4 : w4.cell? ⟨w.heap.size + 1 + 1, 4, none⟩ = some (Value.int .i64 sl) := m3.1 4
  have o5 : w4.cell? ⟨w.heap.size + 1 + 1, 5, none⟩ = some (Value.slice none 0 0) := m3.1 5
  have g5 : w4.frozen? ⟨w.heap.size + 1 + 1, 5, none⟩ = false := m3.2 5
  have q0 : w4.cell? ⟨w.heap.size + 1, 0, none⟩ = some (Value.string ⟨#[]⟩) := m2.1 0
  have f0 : w4.frozen? ⟨w.heap.size + 1, 0, none⟩ = false := m2.2 0
  have q1 : w4.cell? ⟨w.heap.size + 1, 1, none⟩ = some (Value.bool false) := m2.1 1
  have f1 : w4.frozen? ⟨w.heap.size + 1, 1, none⟩ = false := m2.2 1
  have q2 : w4.cell? ⟨w.heap.size + 1, 2, none⟩ = some (Value.slice none 0 0) := m2.1 2
  have f2 : w4.frozen? ⟨w.heap.size + 1, 2, none⟩ = false := m2.2 2
  have q3 : w4.cell? ⟨w.heap.size + 1, 3, none⟩ = some (Value.int .i64 0) := m2.1 3
  have f3 : w4.frozen? ⟨w.heap.size + 1, 3, none⟩ = false := m2.2 3
  have q4 : w4.cell? ⟨w.heap.size + 1, 4, none⟩ = some (Value.int .i64 0) := m2.1 4
  have f4 : w4.frozen? ⟨w.heap.size + 1, 4, none⟩ = false := m2.2 4
  have q5 : w4.cell? ⟨w.heap.size + 1, 5, none⟩ = some (Value.slice none 0 0) := m2.1 5
  have f5 : w4.frozen? ⟨w.heap.size + 1, 5, none⟩ = false := m2.2 5
  have HF2 : Hid (Blk (((((((w4.setCell ⟨w.heap.size + 1 + 1, 5, none⟩ (Value.slice b' code.length bcap')).setCell ⟨w.heap.size + 1, 0, none⟩ (Value.string nm)).setCell ⟨w.heap.size + 1, 1, none⟩ (Value.bool pub)).setCell ⟨w.heap.size + 1, 2, none⟩ (Value.slice a' args.length cap')).setCell ⟨w.heap.size + 1, 3, none⟩ (Value.int .i64 ty)).setCell ⟨w.heap.size + 1, 4, none⟩ (Value.int .i64 sl)).setCell ⟨w.heap.size + 1, 5, none⟩ (Value.slice b' code.length bcap')) (w.heap.size + 1) [Value.string nm, Value.bool pub, Value.slice a' args.length cap', Value.int .i64 ty, Value.int .i64 sl, Value.slice b' code.length bcap']) := hide (((((((m2.other (w.heap.size + 1 + 1) 5 (Value.slice b' code.length bcap') (by omega)).set 0 (Value.string nm) (by simp)).set 1 (Value.bool pub) (by simp)).set 2 (Value.slice a' args.length cap') (by simp)).set 3 (Value.int .i64 ty) (by simp)).set 4 (Value.int .i64 sl) (by simp)).set 5 (Value.slice b' code.length bcap') (by simp))
  have HFB : Hid (Below w.heap.size w4 (((((((w4.setCell ⟨w.heap.size + 1 + 1, 5, none⟩ (Value.slice b' code.length bcap')).setCell ⟨w.heap.size + 1, 0, none⟩ (Value.string nm)).setCell ⟨w.heap.size + 1, 1, none⟩ (Value.bool pub)).setCell ⟨w.heap.size + 1, 2, none⟩ (Value.slice a' args.length cap')).setCell ⟨w.heap.size + 1, 3, none⟩ (Value.int .i64 ty)).setCell ⟨w.heap.size + 1, 4, none⟩ (Value.int .i64 sl)).setCell ⟨w.heap.size + 1, 5, none⟩ (Value.slice b' code.length bcap'))) := hide ((((((((Below.refl w.heap.size w4).setCell (p := ⟨w.heap.size + 1 + 1, 5, none⟩) (by simp <;> omega) (Value.slice b' code.length bcap')).setCell (p := ⟨w.heap.size + 1, 0, none⟩) (by simp <;> omega) (Value.string nm)).setCell (p := ⟨w.heap.size + 1, 1, none⟩) (by simp <;> omega) (Value.bool pub)).setCell (p := ⟨w.heap.size + 1, 2, none⟩) (by simp <;> omega) (Value.slice a' args.length cap')).setCell (p := ⟨w.heap.size + 1, 3, none⟩) (by simp <;> omega) (Value.int .i64 ty)).setCell (p := ⟨w.heap.size + 1, 4, none⟩) (by simp <;> omega) (Value.int .i64 sl)).setCell (p := ⟨w.heap.size + 1, 5, none⟩) (by simp <;> omega) (Value.slice b' code.length bcap'))
  have HFS : Hid ((((((((w4.setCell ⟨w.heap.size + 1 + 1, 5, none⟩ (Value.slice b' code.length bcap')).setCell ⟨w.heap.size + 1, 0, none⟩ (Value.string nm)).setCell ⟨w.heap.size + 1, 1, none⟩ (Value.bool pub)).setCell ⟨w.heap.size + 1, 2, none⟩ (Value.slice a' args.length cap')).setCell ⟨w.heap.size + 1, 3, none⟩ (Value.int .i64 ty)).setCell ⟨w.heap.size + 1, 4, none⟩ (Value.int .i64 sl)).setCell ⟨w.heap.size + 1, 5, none⟩ (Value.slice b' code.length bcap')).heap.size = w4.heap.size) := hide (by simp [World.setCell])
  have HFO : Hid (Same (w.heap.size + 3) w4.heap.size w4 (((((((w4.setCell ⟨w.heap.size + 1 + 1, 5, none⟩ (Value.slice b' code.length bcap')).setCell ⟨w.heap.size + 1, 0, none⟩ (Value.string nm)).setCell ⟨w.heap.size + 1, 1, none⟩ (Value.bool pub)).setCell ⟨w.heap.size + 1, 2, none⟩ (Value.slice a' args.length cap')).setCell ⟨w.heap.size + 1, 3, none⟩ (Value.int .i64 ty)).setCell ⟨w.heap.size + 1, 4, none⟩ (Value.int .i64 sl)).setCell ⟨w.heap.size + 1, 5, none⟩ (Value.slice b' code.length bcap'))) := hide (fun b h1 h2 => by rw [Below.heap_setCell _ _ _ _ (by simp; omega), Below.heap_setCell _ _ _ _ (by simp; omega), Below.heap_setCell _ _ _ _ (by simp; omega), Below.heap_setCell _ _ _ _ (by simp; omega), Below.heap_setCell _ _ _ _ (by simp; omega), Below.heap_setCell _ _ _ _ (by simp; omega), Below.heap_setCell _ _ _ _ (by simp; omega)])
  have HB4 := hide (hW.trans (hb4.mono (by omega)))
  have HE4 := hide hE4
  have HBB := hide hb4
  have HWO := hide hWo
  have HWS := hide hWs
  clear m2 m3 hE4 hb4 hW hWo hWs hs3
  go_wp2
  obtain ⟨F, hF⟩ : ∃ F, F = (((((((w4.setCell ⟨w.heap.size + 1 + 1, 5, none⟩ (Value.slice b' code.length bcap')).setCell ⟨w.heap.size + 1, 0, none⟩ (Value.string nm)).setCell ⟨w.heap.size + 1, 1, none⟩ (Value.bool pub)).setCell ⟨w.heap.size + 1, 2, none⟩ (Value.slice a' args.length cap')).setCell ⟨w.heap.size + 1, 3, none⟩ (Value.int .i64 ty)).setCell ⟨w.heap.size + 1, 4, none⟩ (Value.int .i64 sl)).setCell ⟨w.heap.size + 1, 5, none⟩ (Value.slice b' code.length bcap')) := ⟨_, rfl⟩
  rw [← hF] at HF2 HFB HFS HFO ⊢
  have e := (unhide HF2).1
  have e0 : F.cell? ⟨w.heap.size + 1, 0, none⟩ = some (Value.string nm) := e 0
  have e1 : F.cell? ⟨w.heap.size + 1, 1, none⟩ = some (Value.bool pub) := e 1
  have e2 : F.cell? ⟨w.heap.size + 1, 2, none⟩ = some (Value.slice a' args.length cap') := e 2
  have e3 : F.cell? ⟨w.heap.size + 1, 3, none⟩ = some (Value.int .i64 ty) := e 3
  have e4 : F.cell? ⟨w.heap.size + 1, 4, none⟩ = some (Value.int .i64 sl) := e 4
  have e5 : F.cell? ⟨w.heap.size + 1, 5, none⟩ = some (Value.slice b' code.length bcap') := e 5
  refine bodyPost_ret (v := .agg #[Value.string nm, Value.bool pub, Value.slice a' args.length cap', Value.int .i64 ty, Value.int .i64 sl, Value.slice b' code.length bcap']) (by simp [results, Try.results31, go_sem, e0, e1, e2, e3, e4, e5]) rfl ?_
  have hsz := unhide HS2
  have hbb := (unhide HBB).size
  have hws := unhide HWS
  have hfs := unhide HFS
  have hFO := unhide HFO
  refine ⟨_, _, _, _, _, _, rfl, ⟨a', cap', b', bcap', rfl, unhide HZ, ?_, ?_⟩, (unhide HB4).trans (unhide HFB)⟩
  · refine (unhide HK2).same (fun b h1 h2 => ?_) (by omega) (by omega)
    exact (hFO b (by omega) (by omega)).trans (((unhide HBB).block b (by omega)).trans (unhide HWO b (by omega) h2))
  · exact (unhide HE4).mono (fun v e he => he) (fun b h1 h2 => hFO b (by omega) h2) (by omega) (by omega)
end Go.Proofs.Ytakcpfmpaopfdaa
