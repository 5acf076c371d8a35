/- The walk of impl.CodeSame. Conditions: the objects can be read, the parameters are at most 1048576. -/
import Derived.Test.YtbabagdgnnkpeaaCo
namespace Go.Proofs.Ytbabagdgnnkpeaa
open Go.RowKit Go.PlainAid

set_option maxHeartbeats 2000000 in
theorem CodeSameI_any (lo lo2 : Nat) (v v' : Value) (a b : TO) (w : World) (hA : IsObj w lo w.heap.size v a) (hB : IsObj w lo2 w.heap.size v' b) (hn : ∀ x ∈ a.funs, x.args.length ≤ 1048576) :
    Calls Try.prog 7 #[v, v'] w fun r w' => r = .returned (.bool (objB a b)) ∧ Below w.heap.size w w' := by
  obtain ⟨refs, funs⟩ := a
  obtain ⟨refs', funs'⟩ := b
  have HNN := hide hn
  dsimp only at HNN
  clear hn
  obtain ⟨aa, ca, ba, cb, rfl, ⟨hs1, hs2⟩, ha, hb⟩ := hA
  obtain ⟨aa', ca', ba', cb', rfl, ⟨hs1', hs2'⟩, ha', hb'⟩ := hB
  dsimp only at hs1 hs2 ha hb hs1' hs2' ha' hb' ⊢
  unfold maxLen at hs1 hs2 hs1' hs2'
  obtain ⟨W, hW⟩ : ∃ W, W = (w.alloc (.cells #[.slice aa refs.length ca, .slice ba funs.length cb] 31)).alloc (.cells #[.slice aa' refs'.length ca', .slice ba' funs'.length cb'] 31) := ⟨_, rfl⟩
  have hBW : Below w.heap.size w W := by rw [hW]; exact ((Below.refl _ _).alloc (Nat.le_refl _) _).alloc (by simp) _
  have hb1 : Blk W w.heap.size [.slice aa refs.length ca, .slice ba funs.length cb] := by rw [hW]; exact (Blk.new w [.slice aa refs.length ca, .slice ba funs.length cb] 31).old _ (by simp)
  have hb2 : Blk W (w.heap.size + 1) [.slice aa' refs'.length ca', .slice ba' funs'.length cb'] := by
    have := Blk.new (w.alloc (.cells #[.slice aa refs.length ca, .slice ba funs.length cb] 31)) [.slice aa' refs'.length ca', .slice ba' funs'.length cb'] 31
    rw [alloc_size] at this
    rw [hW]; exact this
  have hsz : W.heap.size = w.heap.size + 2 := by rw [hW]; simp
  have hlt := hide (show w.heap.size < W.heap.size ∧ w.heap.size + 1 < W.heap.size by omega)
  have HBW := hide hBW
  have HA := hide (ha.kept hBW hBW.size)
  have HA' := hide (ha'.kept hBW hBW.size)
  have HF := hide (hb.kept hBW hBW.size)
  have HF' := hide (hb'.kept hBW hBW.size)
  have HB1 := hide hb1
  have HB2 := hide hb2
  obtain ⟨R, hR⟩ : ∃ R, objB ⟨refs, funs⟩ ⟨refs', funs'⟩ = R := ⟨_, rfl⟩
  rw [hR]
  unfold objB at hR
  dsimp only at hR
  have HQ1 := hide (equalCrs_any lo lo2 aa aa' ca ca' refs refs' W (unhide HA) (unhide HA') hs1)
  have HQ2 := hide (fun X (hX : Below W.heap.size W X) => equalFuns_any lo lo2 ba ba' cb cb' funs funs' X ((unhide HF).kept hX hX.size) ((unhide HF').kept hX hX.size) hs2 (unhide HNN))
  obtain ⟨BA, hBA⟩ : ∃ B, allE crB refs refs' = B := ⟨_, rfl⟩
  obtain ⟨BC, hBC⟩ : ∃ B, allE cfB funs funs' = B := ⟨_, rfl⟩
  rw [hBA, hBC] at hR
  rw [hBA] at HQ1
  rw [hBC] at HQ2
  have HRR := hide hR
  clear ha hb ha' hb' hs1 hs1' hs2 hs2' hBW hb1 hsz hBA hBC hb2 hR
  go_enter Try.func7, Try.ntmps7
  go_wp2_with fail
  rw [← hW]
  clear hW
  refine (unhide HQ1).mono ?_
  rintro r w2 ⟨rfl, hb2⟩
  have HC2 := hide ((unhide HBW).trans (hb2.mono (unhide HBW).size))
  have x1 : w2.cell? ⟨w.heap.size, 1, none⟩ = some (.slice ba funs.length cb) := (hb2.cell (p := ⟨w.heap.size, 1, none⟩) (unhide hlt).1).trans ((unhide HB1).1 1)
  have y1 : w2.cell? ⟨w.heap.size + 1, 1, none⟩ = some (.slice ba' funs'.length cb') := (hb2.cell (p := ⟨w.heap.size + 1, 1, none⟩) (unhide hlt).2).trans ((unhide HB2).1 1)
  have HQ3 := hide (unhide HQ2 w2 hb2)
  clear hb2
  cases BA with
  | false =>
    have HR : Hid (R = false) := hide (by rw [← unhide HRR]; rfl)
    go_wp2
    go_ret
    exact ⟨ret_bool (unhide HR).symm, unhide HC2⟩
  | true =>
    have HR : Hid (R = BC) := hide (by rw [← unhide HRR]; rfl)
    go_wp2_with fail
    refine (unhide HQ3).mono ?_
    rintro r w3 ⟨rfl, hb3⟩
    have HC3 := hide ((unhide HC2).trans (hb3.mono (unhide HC2).size))
    clear hb3 x1 y1
    go_wp2
    go_ret
    exact ⟨ret_bool (unhide HR).symm, unhide HC3⟩
end Go.Proofs.Ytbabagdgnnkpeaa
