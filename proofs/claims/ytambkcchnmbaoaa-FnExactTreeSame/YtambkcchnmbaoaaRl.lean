/- The walks of slices.EqualFunc over treeSameFun and of impl.TreeSame. Conditions: no two lists of a tree of the first module lie in one block; each has at most 2^20 expressions; what treeSameExprs does. -/
import Derived.Test.YtambkcchnmbaoaaRi
namespace Go.Proofs.Ytambkcchnmbaoaa
open Go.RowKit Go.PlainAid

theorem keptS {h : Nat} {w w' : World} {lo n m : Nat} {a : Option Addr} {xs : List TF} (hk : IsFuns (IsFunS w lo n h) w lo n a xs) (hb : Below n w w') (hnm : n ≤ m) : IsFuns (IsFunS w' lo m h) w' lo m a xs :=
  hk.mono (fun v e he => IsFunS.same h (Below.same hb) (Nat.le_refl _) hnm v e he) (Below.same hb) (Nat.le_refl _) hnm
/-- A module whose trees' lists lie apart. -/
def IsModS (w : World) (lo n h : Nat) (v : Value) (m : TM) : Prop :=
  ∃ (a1 a2 a3 : Option Addr) (k1 k2 k3 : Nat), v = .agg #[.slice a1 m.uses.length k1, .slice a2 m.funs.length k2, .slice a3 m.main.length k3] ∧ (m.uses.length ≤ maxLen ∧ m.funs.length ≤ maxLen ∧ m.main.length ≤ maxLen ∧ (∀ x ∈ m.uses, x.size ≤ maxLen) ∧ m.uses.length ≤ k1) ∧ IsWds w lo n a1 m.uses ∧ IsFuns (IsFunS w lo n h) w lo n a2 m.funs ∧ IsSW w h lo n a3 m.main

set_option maxRecDepth 100000 in
set_option maxHeartbeats 2000000 in
theorem equalFuns_any (lo lo' h h' : Nat) (a a' : Option Addr) (cap cap' : Nat) (ks ks' : List TF) (w : World) (hk : IsFuns (IsFunS w lo w.heap.size h) w lo w.heap.size a ks) (hk' : IsFuns (IsFun w lo' w.heap.size h') w lo' w.heap.size a' ks') (hl : ks.length ≤ maxLen) (H : SameEx) (hlo : lo ≤ w.heap.size) (hlo' : lo' ≤ w.heap.size) (hN : ∀ x ∈ ks, x.body.nodes ≤ 1048576) :
    Calls Try.prog 46 #[.slice a ks.length cap, .slice a' ks'.length cap', .func (.func 47) #[] #[]] w fun r w' => r = .returned (.bool (funsB ks ks')) ∧ Below w.heap.size w w' := by
  unfold maxLen at hl
  have HK := hide hk
  have HK' := hide hk'
  have HH := hide H
  have HLO := hide (And.intro hlo hlo')
  have HN := hide hN
  clear hk hk' H hlo hlo' hN
  obtain ⟨R, hR⟩ : ∃ R, funsB ks ks' = R := ⟨_, rfl⟩
  rw [hR]
  have HX := hide hR.symm
  clear hR
  cases t5 : ((ks.length : Int) != (ks'.length : Int)) with
  | true =>
    have HR : Hid (R = false) := hide (by
      rw [unhide HX]
      refine funsB_ne (fun e => ?_)
      rw [e] at t5; simp at t5)
    go_enter Try.func46, Try.ntmps46
    go_wp2
    go_ret
    exact ⟨ret_bool (unhide HR).symm, Below.refl _ _⟩
  | false =>
  have HLEN : Hid (ks.length = ks'.length) := hide (by have := ne_yes t5; simp at this; omega)
  go_enter Try.func46, Try.ntmps46
  go_wp2
  clear t5
  go_loopw [17] (fun i wr => ∃ j : Nat, j ≤ ks.length ∧ i = .int .i64 j ∧ Hid (R = funsB (ks.drop j) (ks'.drop j)) ∧ Hid (Below w.heap.size w wr)) (fun i _ => ks.length - (intOf i).toNat)
  case atStart => exact ⟨0, Nat.zero_le _, rfl, HX, hide (Below.refl _ _)⟩
  case round =>
    clear HX
    obtain ⟨j, hj, rfl, HX, HB⟩ := hrel
    by_cases hp : j < ks.length
    · have hp' : j < ks'.length := by have := unhide HLEN; omega
      have hat := funsB_at ks ks' j hp hp'
      rcases keptS (unhide HK) (unhide HB) (unhide HB).size with hq | ⟨b, off, rfl, hbl, hbn, hcs⟩
      · rw [hq] at hp; simp at hp
      rcases (unhide HK').kept (unhide HB) (unhide HB).size with hq | ⟨b', off', rfl, hbl', hbn', hcs'⟩
      · rw [hq] at hp'; simp at hp'
      obtain ⟨c0, c1, c2, c3, c4, c5, c6, c7, c8, d0, d1, d2, d3, d4, d5, d6, d7, d8, hr⟩ := hcs j hp
      obtain ⟨c0', c1', c2', c3', c4', c5', c6', c7', c8', d0', d1', d2', d3', d4', d5', d6', d7', d8', hr'⟩ := hcs' j hp'
      have hNx := unhide HN _ (List.getElem_mem hp)
      generalize ks[j] = x at hr hat hNx
      generalize ks'[j] = x' at hr' hat
      have HAT := hide ((unhide HX).trans hat)
      have HQ := hide (fun (W : World) (hb : Below wr.heap.size wr W) => sameFun_any (unhide HH) lo lo' h h' _ _ x x' W (IsFunS.same h (Below.same hb) (Nat.le_refl _) hb.size _ _ hr) (IsFun.same h' (Below.same hb) (Nat.le_refl _) hb.size _ _ hr') (by have := (unhide HB).size; have := hb.size; have := (unhide HLO).1; omega) (by have := (unhide HB).size; have := hb.size; have := (unhide HLO).2; omega) hNx)
      obtain ⟨xs, xp, xa, xl, xc, xt, xk, xm, xn, xd, ya, yl, yc, rfl, rfl, rfl, rfl, rfl, rfl, rfl, rfl, rfl⟩ := IsFun.form h hr.toF
      obtain ⟨ys, yp, za, zl, zc, yt, yk, ym, yn, yd, ua, ul, uc, rfl, rfl, rfl, rfl, rfl, rfl, rfl, rfl, rfl⟩ := IsFun.form h' hr'
      clear hcs hcs' hr hr' hat hNx
      go_wp2_with fail
      refine (unhide HQ _ ?hb).mono ?_
      case hb => exact ((Below.refl _ _).alloc (Nat.le_refl _) _).alloc (by simp) _
      rintro r w2 ⟨rfl, hb2⟩
      have HB2 := hide ((unhide HB).trans ((((Below.refl _ wr).alloc (Nat.le_refl _) _).alloc (by simp) _).trans (hb2.mono (by simp; omega)) |>.mono (unhide HB).size))
      clear hb2
      cases hb : x.same x' with
      | true =>
        have HX2 : Hid (R = funsB (ks.drop (j + 1)) (ks'.drop (j + 1))) := hide (by rw [unhide HAT, hb]; rfl)
        go_wp2
        go_roundw
        case rel => exact ⟨j + 1, by omega, by go_num, HX2, HB2⟩
        case measure => simp [intOf]; omega
      | false =>
        have HR : Hid (R = false) := hide (by rw [unhide HAT, hb]; rfl)
        go_wp2
        go_ret
        exact ⟨ret_bool (unhide HR).symm, unhide HB2⟩
    · have HR : Hid (R = true) := hide (by rw [unhide HX, List.drop_of_length_le (by omega), List.drop_of_length_le (by have := unhide HLEN; omega), funsB])
      go_wp2
      go_ret
      exact ⟨ret_bool (unhide HR).symm, unhide HB⟩

theorem IsSW.same {w w' : World} {h lo n : Nat} {a : Option Addr} {kids : List TE} (hk : IsSW w h lo n a kids) (hs : Same lo n w w') : IsSW w' h lo n a kids := by
  rcases hk with e | ⟨b, h1, h0, hb, hp, cut, h2, hbc, hm, h3, h4⟩
  · exact .inl e
  · have hm' := cut_mono hm
    refine .inr ⟨b, h1, h0, hb, plain_mono hp (hs b h0 hb), cut, h2, hbc, hm, h3, fun j hj => ?_⟩
    obtain ⟨c0, c1, c2, c3, c4, d0, d1, d2, d3, d4, hr⟩ := h4 j hj
    have hc : ∀ o, w'.cell? ⟨b, o, none⟩ = w.cell? ⟨b, o, none⟩ := fun o => World.cell?_of_block (w := w) (hs b h0 hb)
    have g1 := hm' 0 j (Nat.zero_le _) (by omega)
    have g2 := hm' (j + 1) kids.length (by omega) (Nat.le_refl _)
    exact ⟨c0, c1, c2, c3, c4, (hc _).trans d0, (hc _).trans d1, (hc _).trans d2, (hc _).trans d3, (hc _).trans d4, IsS.same h _ _ _ _ _ _ (fun b h1 h2 => hs b (by omega) (by omega)) (Nat.le_refl _) (Nat.le_refl _) hr⟩
set_option maxRecDepth 100000 in
set_option maxHeartbeats 4000000 in
theorem TreeSameI_any (H : SameEx) (lo lo' h h' : Nat) (v v' : Value) (m m' : TM) (w : World) (hM : IsModS w lo w.heap.size h v m) (hM' : IsMod w lo' w.heap.size h' v' m') (hlo : lo ≤ w.heap.size) (hlo' : lo' ≤ w.heap.size) (hN : (∀ x ∈ m.funs, x.body.nodes ≤ 1048576) ∧ nodesL m.main ≤ 1048576) :
    Calls Try.prog 23 #[v, v'] w fun r w' => r = .returned (.bool (m.same m')) ∧ Below w.heap.size w w' := by
  have HX : Hid (m.same m' = (wdsB m.uses m'.uses && (funsB m.funs m'.funs && sameL m.main m'.main))) := hide rfl
  obtain ⟨us, fs, mn⟩ := m
  obtain ⟨us', fs', mn'⟩ := m'
  obtain ⟨a1, a2, a3, k1, k2, k3, rfl, ⟨z1, z2, z3, _, _⟩, q1, q2, q3⟩ := hM
  obtain ⟨a1', a2', a3', k1', k2', k3', rfl, ⟨z1', z2', z3', _, _⟩, q1', q2', q3'⟩ := hM'
  dsimp only at z1 z2 z3 z1' z2' z3' q1 q2 q3 q1' q2' q3' HX hN ⊢
  generalize TM.same _ _ = R at HX ⊢
  have HU := hide (fun (W : World) (hb : Below w.heap.size w W) => equalWds_any lo lo' a1 a1' k1 k1' us us' W (q1.kept hb hb.size) (q1'.kept hb hb.size) z1 z1')
  have HF := hide (fun (W : World) (hb : Below w.heap.size w W) => equalFuns_any lo lo' h h' a2 a2' k2 k2' fs fs' W (keptS q2 hb hb.size) (q2'.kept hb hb.size) z2 H (Nat.le_trans hlo hb.size) (Nat.le_trans hlo' hb.size) hN.1)
  have HE := hide (fun (W : World) (hb : Below w.heap.size w W) => H lo w.heap.size h lo' h' a3 a3' k3 k3' mn mn' W (q3.same (Below.same hb)) hb.size (q3'.kept hb hb.size) z3 hN.2)
  unfold maxLen at z1 z2 z3 z1' z2' z3'
  clear q1 q2 q3 q1' q2' q3' hlo hlo' hN H
  go_enter Try.func23, Try.ntmps23
  go_wp2_with fail
  refine (unhide HU _ (((Below.refl _ w).alloc (Nat.le_refl _) _).alloc (by simp) _)).mono ?_
  rintro r w2 ⟨rfl, hb2⟩
  have hB2 := ((((Below.refl w.heap.size w).alloc (Nat.le_refl _) _).alloc (by simp) _).trans (hb2.mono (by simp; omega)))
  have n1 : Blk w2 w.heap.size [Value.slice a1 us.length k1, .slice a2 fs.length k2, .slice a3 mn.length k3] := ((Blk.new w [Value.slice a1 us.length k1, .slice a2 fs.length k2, .slice a3 mn.length k3] 46).old _ (by simp)).below hb2 (by simp; omega)
  have n2 : Blk w2 (w.heap.size + 1) [Value.slice a1' us'.length k1', .slice a2' fs'.length k2', .slice a3' mn'.length k3'] := by
    have := (Blk.new (w.alloc (.cells #[Value.slice a1 us.length k1, .slice a2 fs.length k2, .slice a3 mn.length k3] 46)) [Value.slice a1' us'.length k1', .slice a2' fs'.length k2', .slice a3' mn'.length k3'] 46).below hb2 (by simp)
    rw [alloc_size] at this
    exact this
  have hz2 : w.heap.size + 1 < w2.heap.size := by have := hb2.size; rw [alloc_size, alloc_size] at this; omega
  have p1 := n1.cellAt (i := 1) rfl
  have r1 := n2.cellAt (i := 1) rfl
  have HB2 := hide hB2
  have HN1 := hide n1
  have HN2 := hide n2
  clear hb2 hB2 n1 n2 HU
  cases hu : wdsB us us' with
  | false =>
    have HR : Hid (R = false) := hide (by rw [unhide HX, hu]; rfl)
    go_wp2
    go_ret
    exact ⟨ret_bool (unhide HR).symm, unhide HB2⟩
  | true =>
  go_wp2_with fail
  refine (unhide HF _ (unhide HB2)).mono ?_
  rintro r w3 ⟨rfl, hb3⟩
  have n1 := (unhide HN1).below hb3 (by omega)
  have n2 := (unhide HN2).below hb3 (by omega)
  have s1 := n1.cellAt (i := 2) rfl
  have s2 := n2.cellAt (i := 2) rfl
  have hz3 : w.heap.size + 1 < w3.heap.size := by have := hb3.size; omega
  have HB3 : Hid (Below w.heap.size w w3) := hide ((unhide HB2).trans (hb3.mono (unhide HB2).size))
  clear hb3 n1 n2 p1 r1 HN1 HN2 HF hz2
  cases hf : funsB fs fs' with
  | false =>
    have HR : Hid (R = false) := hide (by rw [unhide HX, hf]; simp)
    go_wp2
    go_ret
    exact ⟨ret_bool (unhide HR).symm, unhide HB3⟩
  | true =>
  have HR : Hid (sameL mn mn' = R) := hide (by rw [unhide HX, hu, hf]; rfl)
  clear HX hu hf
  go_wp2_with fail
  refine (unhide HE _ (unhide HB3)).mono ?_
  rintro r w4 ⟨rfl, hb4⟩
  rw [unhide HR]
  have HB4 : Hid (Below w.heap.size w w4) := hide ((unhide HB3).trans (hb4.mono (unhide HB3).size))
  clear hb4 s1 s2 HE
  go_wp2
  go_ret
  exact ⟨rfl, unhide HB4⟩
end Go.Proofs.Ytambkcchnmbaoaa
