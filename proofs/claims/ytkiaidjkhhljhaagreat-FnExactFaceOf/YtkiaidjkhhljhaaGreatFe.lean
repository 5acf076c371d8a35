/- The walks of szFaceSig, eqFaceSig and toFaceSig. No conditions. -/
import Derived.Test.YtkiaidjkhhljhaaGreatFd
namespace Go.Proofs.YtkiaidjkhhljhaaGreat
open Go.RowKit Go.PlainAid

set_option maxHeartbeats 1000000 in
set_option maxHeartbeats 1000000 in
theorem eqFaceSig_any (lo lo' : Nat) : EqSig lo lo' := by
  intro v v' f w hF hF'
  obtain ⟨nm, args, ty⟩ := f
  obtain ⟨aa, ca, rfl, ⟨hs1, hs2⟩, ha⟩ := hF
  obtain ⟨aa', ca', rfl, _, ha'⟩ := hF'
  dsimp only at hs1 hs2 ha ha' ⊢
  have HA := hide (fun (w' : World) (hb : Below w.heap.size w w') => eqIntS_any lo lo' aa aa' ca ca' args w' hs2 (ha.kept hb hb.size) (ha'.kept hb hb.size))
  clear ha ha' hs1 hs2
  have q1 : (nm.toList != nm.toList) = false := by simp
  have q3 : (ty != ty) = false := by simp
  show Calls Tryz.prog 53 #[.agg #[.string nm, .slice aa args.length ca, .int .i64 ty], .agg #[.string nm, .slice aa' args.length ca', .int .i64 ty]] w fun r w' => r = .returned (.bool true) ∧ Below w.heap.size w w'
  go_enter Tryz.func53, Tryz.ntmps53
  go_wp2_with fail
  refine (unhide HA _ (((Below.refl _ w).alloc (Nat.le_refl _) _).alloc (by simp) _)).mono ?_
  rintro r w2 ⟨rfl, hb2⟩
  have hB2 := ((((Below.refl w.heap.size w).alloc (Nat.le_refl _) _).alloc (by simp) _).trans (hb2.mono (by simp; omega)))
  have p2 : w2.cell? ⟨w.heap.size, 2, none⟩ = some (.int .i64 ty) := (hb2.cell (p := ⟨w.heap.size, 2, none⟩) (by simp; omega)).trans (((Below.refl _ _).alloc (Nat.le_refl _) _).cell (p := ⟨w.heap.size, 2, none⟩) (by simp) |>.trans (alloc_cell _ _ _ _))
  have r2 : w2.cell? ⟨w.heap.size + 1, 2, none⟩ = some (.int .i64 ty) := (hb2.cell (p := ⟨w.heap.size + 1, 2, none⟩) (by simp)).trans (by
    have := alloc_cell (w.alloc (.cells #[.string nm, .slice aa args.length ca, .int .i64 ty] 65)) #[.string nm, .slice aa' args.length ca', .int .i64 ty] 65 2
    rw [alloc_size] at this
    exact this)
  have HB2 := hide hB2
  clear hb2 hB2
  go_wp2
  go_ret
  exact ⟨rfl, unhide HB2⟩

end Go.Proofs.YtkiaidjkhhljhaaGreat
