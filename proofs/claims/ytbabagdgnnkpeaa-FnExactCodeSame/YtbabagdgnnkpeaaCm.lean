/- The walk of impl.codeSameFun. Conditions: the functions can be read, their parameters are at most 1048576. -/
import Derived.Test.YtbabagdgnnkpeaaCj
namespace Go.Proofs.Ytbabagdgnnkpeaa
open Go.RowKit Go.PlainAid

set_option maxHeartbeats 4000000 in
theorem codeSameFun_any (lo lo2 : Nat) (v v' : Value) (f g : TC) (w : World) (hF : IsCf w lo w.heap.size v f) (hG : IsCf w lo2 w.heap.size v' g) (hn : f.args.length ≤ 1048576) :
    Calls Try.prog 16 #[v, v'] w fun r w' => r = .returned (.bool (cfB f g)) ∧ Below w.heap.size w w' := by
  obtain ⟨nm, pub, args, ty, sl, code⟩ := f
  obtain ⟨nm', pub', args', ty', sl', code'⟩ := g
  obtain ⟨aa, ca, ba, cb, rfl, ⟨hs1, hs2, hs3⟩, ha, hb⟩ := hF
  obtain ⟨aa', ca', ba', cb', rfl, ⟨hs1', hs2', hs3'⟩, ha', hb'⟩ := hG
  dsimp only at hs1 hs2 hs3 ha hb hs1' hs2' hs3' ha' hb' ⊢
  unfold maxLen at hs2 hs3 hs2' hs3'
  obtain ⟨W, hW⟩ : ∃ W, W = (w.alloc (.cells #[Value.string nm, .bool pub, .slice aa args.length ca, .int .i64 ty, .int .i64 sl, .slice ba code.length cb] 42)).alloc (.cells #[Value.string nm', .bool pub', .slice aa' args'.length ca', .int .i64 ty', .int .i64 sl', .slice ba' code'.length cb'] 42) := ⟨_, rfl⟩
  have hBW : Below w.heap.size w W := by rw [hW]; exact ((Below.refl _ _).alloc (Nat.le_refl _) _).alloc (by simp) _
  have hb1 : Blk W w.heap.size [Value.string nm, .bool pub, .slice aa args.length ca, .int .i64 ty, .int .i64 sl, .slice ba code.length cb] := by rw [hW]; exact (Blk.new w [Value.string nm, .bool pub, .slice aa args.length ca, .int .i64 ty, .int .i64 sl, .slice ba code.length cb] 42).old _ (by simp)
  have hb2 : Blk W (w.heap.size + 1) [Value.string nm', .bool pub', .slice aa' args'.length ca', .int .i64 ty', .int .i64 sl', .slice ba' code'.length cb'] := by
    have := Blk.new (w.alloc (.cells #[Value.string nm, .bool pub, .slice aa args.length ca, .int .i64 ty, .int .i64 sl, .slice ba code.length cb] 42)) [Value.string nm', .bool pub', .slice aa' args'.length ca', .int .i64 ty', .int .i64 sl', .slice ba' code'.length cb'] 42
    rw [alloc_size] at this
    rw [hW]; exact this
  have hsz : W.heap.size = w.heap.size + 2 := by rw [hW]; simp
  have HBW := hide hBW
  have HSZ := hide hsz
  have HI := hide (ha.kept hBW hBW.size)
  have HI' := hide (ha'.kept hBW hBW.size)
  have HC := hide (hb.kept hBW hBW.size)
  have HC' := hide (hb'.kept hBW hBW.size)
  have HB1 := hide hb1
  have HB2' := hide hb2
  have HN1 := hide hn
  dsimp only at HN1
  clear hn
  obtain ⟨R, hR⟩ : ∃ R, cfB ⟨nm, pub, args, ty, sl, code⟩ ⟨nm', pub', args', ty', sl', code'⟩ = R := ⟨_, rfl⟩
  rw [hR]
  have HQ1 := hide (equalInts_any lo lo2 aa aa' ca ca' args args' W (ha.kept hBW hBW.size) (ha'.kept hBW hBW.size) (by have := unhide HN1; omega))
  have HQ2 := hide (fun X (hX : Below W.heap.size W X) => equalCis_any lo lo2 ba ba' cb cb' code code' X ((hb.kept hBW hBW.size).kept hX hX.size) ((hb'.kept hBW hBW.size).kept hX hX.size) hs3)
  obtain ⟨BA, hBA⟩ : ∃ B, eqI args args' = B := ⟨_, rfl⟩
  obtain ⟨BC, hBC⟩ : ∃ B, allE ciB code code' = B := ⟨_, rfl⟩
  unfold cfB at hR
  dsimp only at hR
  rw [hBA, hBC] at hR
  rw [hBA] at HQ1
  rw [hBC] at HQ2
  have lt0 : w.heap.size < W.heap.size := by omega
  have lt1 : w.heap.size + 1 < W.heap.size := by omega
  have hlt := hide (And.intro lt0 lt1)
  clear lt0 lt1
  clear ha hb ha' hb' hs1 hs1' hBW hb1 hb2 hsz hBA hBC hs2 hs3 hs2' hs3'
  by_cases t0 : nm.toList = nm'.toList
  case neg =>
    have HR : Hid (R = false) := hide (by rw [← hR]; simp [t0])
    have e0 : (nm.toList == nm'.toList) = false := by simpa using t0
    clear hR
    go_enter Try.func16, Try.ntmps16
    go_wp2
    go_ret
    exact ⟨ret_bool (unhide HR).symm, by rw [← hW]; exact unhide HBW⟩
  have e0 : (nm.toList == nm'.toList) = true := by simpa using t0
  rw [e0, Bool.true_and] at hR
  by_cases t1 : pub = pub'
  case neg =>
    have HR : Hid (R = false) := hide (by rw [← hR]; simp [t1])
    have HP := hide t1
    clear t1 hR
    cases pub <;> cases pub'
    all_goals
      first
      | exact absurd rfl (unhide HP)
      | skip
    all_goals
      go_enter Try.func16, Try.ntmps16
      go_wp2
      go_ret
      exact ⟨ret_bool (unhide HR).symm, by rw [← hW]; exact unhide HBW⟩
  subst t1
  have e1 : (pub == pub) = true := by simp
  rw [e1, Bool.true_and] at hR
  cases BA with
  | false =>
    have HR : Hid (R = false) := hide (by rw [← hR]; simp)
    clear hR
    go_enter Try.func16, Try.ntmps16
    go_wp2_with fail
    rw [← hW]
    refine (unhide HQ1).mono ?_
    rintro r w2 ⟨rfl, hb2⟩
    have HB2 := hide ((unhide HBW).trans (hb2.mono (unhide HBW).size))
    have x3 : w2.cell? ⟨w.heap.size, 3, none⟩ = some (.int .i64 ty) := (hb2.cell (p := ⟨w.heap.size, 3, none⟩) (unhide hlt).1).trans ((unhide HB1).1 3)
    have x4 : w2.cell? ⟨w.heap.size, 4, none⟩ = some (.int .i64 sl) := (hb2.cell (p := ⟨w.heap.size, 4, none⟩) (unhide hlt).1).trans ((unhide HB1).1 4)
    have x5 : w2.cell? ⟨w.heap.size, 5, none⟩ = some (.slice ba code.length cb) := (hb2.cell (p := ⟨w.heap.size, 5, none⟩) (unhide hlt).1).trans ((unhide HB1).1 5)
    have y3 : w2.cell? ⟨w.heap.size + 1, 3, none⟩ = some (.int .i64 ty') := (hb2.cell (p := ⟨w.heap.size + 1, 3, none⟩) (unhide hlt).2).trans ((unhide HB2').1 3)
    have y4 : w2.cell? ⟨w.heap.size + 1, 4, none⟩ = some (.int .i64 sl') := (hb2.cell (p := ⟨w.heap.size + 1, 4, none⟩) (unhide hlt).2).trans ((unhide HB2').1 4)
    have y5 : w2.cell? ⟨w.heap.size + 1, 5, none⟩ = some (.slice ba' code'.length cb') := (hb2.cell (p := ⟨w.heap.size + 1, 5, none⟩) (unhide hlt).2).trans ((unhide HB2').1 5)
    have HQ3 := hide (unhide HQ2 w2 hb2)
    clear hb2
    go_wp2
    go_ret
    exact ⟨ret_bool (unhide HR).symm, unhide HB2⟩
  | true =>
    rw [Bool.true_and] at hR
    by_cases t2 : ty = ty'
    case neg =>
      have HR : Hid (R = false) := hide (by rw [← hR]; simp [t2])
      have e2 : (ty == ty') = false := by simpa using t2
      clear hR
      go_enter Try.func16, Try.ntmps16
      go_wp2_with fail
      rw [← hW]
      refine (unhide HQ1).mono ?_
      rintro r w2 ⟨rfl, hb2⟩
      have HB2 := hide ((unhide HBW).trans (hb2.mono (unhide HBW).size))
      have x3 : w2.cell? ⟨w.heap.size, 3, none⟩ = some (.int .i64 ty) := (hb2.cell (p := ⟨w.heap.size, 3, none⟩) (unhide hlt).1).trans ((unhide HB1).1 3)
      have x4 : w2.cell? ⟨w.heap.size, 4, none⟩ = some (.int .i64 sl) := (hb2.cell (p := ⟨w.heap.size, 4, none⟩) (unhide hlt).1).trans ((unhide HB1).1 4)
      have x5 : w2.cell? ⟨w.heap.size, 5, none⟩ = some (.slice ba code.length cb) := (hb2.cell (p := ⟨w.heap.size, 5, none⟩) (unhide hlt).1).trans ((unhide HB1).1 5)
      have y3 : w2.cell? ⟨w.heap.size + 1, 3, none⟩ = some (.int .i64 ty') := (hb2.cell (p := ⟨w.heap.size + 1, 3, none⟩) (unhide hlt).2).trans ((unhide HB2').1 3)
      have y4 : w2.cell? ⟨w.heap.size + 1, 4, none⟩ = some (.int .i64 sl') := (hb2.cell (p := ⟨w.heap.size + 1, 4, none⟩) (unhide hlt).2).trans ((unhide HB2').1 4)
      have y5 : w2.cell? ⟨w.heap.size + 1, 5, none⟩ = some (.slice ba' code'.length cb') := (hb2.cell (p := ⟨w.heap.size + 1, 5, none⟩) (unhide hlt).2).trans ((unhide HB2').1 5)
      have HQ3 := hide (unhide HQ2 w2 hb2)
      clear hb2
      go_wp2
      go_ret
      exact ⟨ret_bool (unhide HR).symm, unhide HB2⟩
    subst t2
    by_cases t3 : sl = sl'
    case neg =>
      have HR : Hid (R = false) := hide (by rw [← hR]; simp [t3])
      have e3 : (sl == sl') = false := by simpa using t3
      clear hR
      go_enter Try.func16, Try.ntmps16
      go_wp2_with fail
      rw [← hW]
      refine (unhide HQ1).mono ?_
      rintro r w2 ⟨rfl, hb2⟩
      have HB2 := hide ((unhide HBW).trans (hb2.mono (unhide HBW).size))
      have x3 : w2.cell? ⟨w.heap.size, 3, none⟩ = some (.int .i64 ty) := (hb2.cell (p := ⟨w.heap.size, 3, none⟩) (unhide hlt).1).trans ((unhide HB1).1 3)
      have x4 : w2.cell? ⟨w.heap.size, 4, none⟩ = some (.int .i64 sl) := (hb2.cell (p := ⟨w.heap.size, 4, none⟩) (unhide hlt).1).trans ((unhide HB1).1 4)
      have x5 : w2.cell? ⟨w.heap.size, 5, none⟩ = some (.slice ba code.length cb) := (hb2.cell (p := ⟨w.heap.size, 5, none⟩) (unhide hlt).1).trans ((unhide HB1).1 5)
      have y3 : w2.cell? ⟨w.heap.size + 1, 3, none⟩ = some (.int .i64 ty) := (hb2.cell (p := ⟨w.heap.size + 1, 3, none⟩) (unhide hlt).2).trans ((unhide HB2').1 3)
      have y4 : w2.cell? ⟨w.heap.size + 1, 4, none⟩ = some (.int .i64 sl') := (hb2.cell (p := ⟨w.heap.size + 1, 4, none⟩) (unhide hlt).2).trans ((unhide HB2').1 4)
      have y5 : w2.cell? ⟨w.heap.size + 1, 5, none⟩ = some (.slice ba' code'.length cb') := (hb2.cell (p := ⟨w.heap.size + 1, 5, none⟩) (unhide hlt).2).trans ((unhide HB2').1 5)
      have HQ3 := hide (unhide HQ2 w2 hb2)
      clear hb2
      go_wp2
      go_ret
      exact ⟨ret_bool (unhide HR).symm, unhide HB2⟩
    subst t3
    have HR : Hid (R = BC) := hide (by rw [← hR]; simp)
    clear hR
    cases BC with
    | false =>
      go_enter Try.func16, Try.ntmps16
      go_wp2_with fail
      rw [← hW]
      refine (unhide HQ1).mono ?_
      rintro r w2 ⟨rfl, hb2⟩
      have HB2 := hide ((unhide HBW).trans (hb2.mono (unhide HBW).size))
      have x3 : w2.cell? ⟨w.heap.size, 3, none⟩ = some (.int .i64 ty) := (hb2.cell (p := ⟨w.heap.size, 3, none⟩) (unhide hlt).1).trans ((unhide HB1).1 3)
      have x4 : w2.cell? ⟨w.heap.size, 4, none⟩ = some (.int .i64 sl) := (hb2.cell (p := ⟨w.heap.size, 4, none⟩) (unhide hlt).1).trans ((unhide HB1).1 4)
      have x5 : w2.cell? ⟨w.heap.size, 5, none⟩ = some (.slice ba code.length cb) := (hb2.cell (p := ⟨w.heap.size, 5, none⟩) (unhide hlt).1).trans ((unhide HB1).1 5)
      have y3 : w2.cell? ⟨w.heap.size + 1, 3, none⟩ = some (.int .i64 ty) := (hb2.cell (p := ⟨w.heap.size + 1, 3, none⟩) (unhide hlt).2).trans ((unhide HB2').1 3)
      have y4 : w2.cell? ⟨w.heap.size + 1, 4, none⟩ = some (.int .i64 sl) := (hb2.cell (p := ⟨w.heap.size + 1, 4, none⟩) (unhide hlt).2).trans ((unhide HB2').1 4)
      have y5 : w2.cell? ⟨w.heap.size + 1, 5, none⟩ = some (.slice ba' code'.length cb') := (hb2.cell (p := ⟨w.heap.size + 1, 5, none⟩) (unhide hlt).2).trans ((unhide HB2').1 5)
      have HQ3 := hide (unhide HQ2 w2 hb2)
      clear hb2
      go_wp2_with fail
      refine (unhide HQ3).mono ?_
      rintro r w3 ⟨rfl, hb3⟩
      have HB3 := hide ((unhide HB2).trans (hb3.mono (unhide HB2).size))
      clear hb3 x3 x4 x5 y3 y4 y5
      go_wp2
      go_ret
      exact ⟨ret_bool (unhide HR).symm, unhide HB3⟩
    | true =>
      go_enter Try.func16, Try.ntmps16
      go_wp2_with fail
      rw [← hW]
      refine (unhide HQ1).mono ?_
      rintro r w2 ⟨rfl, hb2⟩
      have HB2 := hide ((unhide HBW).trans (hb2.mono (unhide HBW).size))
      have x3 : w2.cell? ⟨w.heap.size, 3, none⟩ = some (.int .i64 ty) := (hb2.cell (p := ⟨w.heap.size, 3, none⟩) (unhide hlt).1).trans ((unhide HB1).1 3)
      have x4 : w2.cell? ⟨w.heap.size, 4, none⟩ = some (.int .i64 sl) := (hb2.cell (p := ⟨w.heap.size, 4, none⟩) (unhide hlt).1).trans ((unhide HB1).1 4)
      have x5 : w2.cell? ⟨w.heap.size, 5, none⟩ = some (.slice ba code.length cb) := (hb2.cell (p := ⟨w.heap.size, 5, none⟩) (unhide hlt).1).trans ((unhide HB1).1 5)
      have y3 : w2.cell? ⟨w.heap.size + 1, 3, none⟩ = some (.int .i64 ty) := (hb2.cell (p := ⟨w.heap.size + 1, 3, none⟩) (unhide hlt).2).trans ((unhide HB2').1 3)
      have y4 : w2.cell? ⟨w.heap.size + 1, 4, none⟩ = some (.int .i64 sl) := (hb2.cell (p := ⟨w.heap.size + 1, 4, none⟩) (unhide hlt).2).trans ((unhide HB2').1 4)
      have y5 : w2.cell? ⟨w.heap.size + 1, 5, none⟩ = some (.slice ba' code'.length cb') := (hb2.cell (p := ⟨w.heap.size + 1, 5, none⟩) (unhide hlt).2).trans ((unhide HB2').1 5)
      have HQ3 := hide (unhide HQ2 w2 hb2)
      clear hb2
      go_wp2_with fail
      refine (unhide HQ3).mono ?_
      rintro r w3 ⟨rfl, hb3⟩
      have HB3 := hide ((unhide HB2).trans (hb3.mono (unhide HB2).size))
      clear hb3 x3 x4 x5 y3 y4 y5
      go_wp2
      go_ret
      exact ⟨ret_bool (unhide HR).symm, unhide HB3⟩
end Go.Proofs.Ytbabagdgnnkpeaa
