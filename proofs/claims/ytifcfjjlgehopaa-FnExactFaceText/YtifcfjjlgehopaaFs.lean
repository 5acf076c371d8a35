/- The walk of impl.FaceText. Conditions: the face can be read. -/
import Derived.Test.YtifcfjjlgehopaaFr
import Derived.Test.YtifcfjjlgehopaaBs
namespace Go.Proofs.Ytifcfjjlgehopaa
open Go.RowKit Go.PlainAid

theorem builder_kept {T e : TypeId} {B b : Nat} {bs : List Value} {w w' : World} (h : Lib.IsBuilderF T e B b bs w) (hb : Below w.heap.size w w') : Lib.IsBuilderF T e B b bs w' := by
  have one : ∀ p, Lib.BuilderAtF T e B b p bs w → Lib.BuilderAtF T e B b p bs w' := by
    rintro p ⟨hB, v, hh, hown, hne⟩
    refine ⟨hB, v, (hb.block b (lt_of_heap hh)).trans hh, ⟨hown.1, ?_⟩, hne⟩
    rcases hown.2 with hn | ⟨g, cap, cur, fz, hv, hg, hgb, rest⟩
    · exact .inl hn
    · exact .inr ⟨g, cap, cur, fz, hv, hg, (hb.block g (lt_of_heap hgb)).trans hgb, rest⟩
  rcases h with h | h
  · exact .inl (one _ h)
  · exact .inr (one _ h)
theorem wsinfoF : (Try.prog.info? 9).map (fun i => (i.zero, i.size, i.bytes)) = some (some (.string ⟨#[]⟩), 1, 16) := by kernel_rfl
theorem cell_one_newF (W : World) (v : Value) (t : TypeId) : ∀ j u, [v][j]? = some u → (W.alloc (.cells #[v] t)).cell? ((⟨W.heap.size, 0, none⟩ : Addr).add j) = some u := fun j u hu => by
  rw [Addr.add_lit, Nat.zero_add, alloc_cell]
  simpa using hu
/-- The words of types, joined. -/
theorem joinF (W : World) (base e k : Nat) (v : Value) (zs : List Int) (hrow : W.ownsRow base e 1 v k ((zs.map typeW).map Value.string)) (hl : zs.length ≤ 4) :
    Calls Try.prog 49 #[v, .string ⟨#[44]⟩] W fun r w' => r = .returned (.string ⟨(tyL zs).toArray⟩) ∧ Below W.heap.size W w' := by
  have hk : k = zs.length := by have := hrow.1; simp at this; omega
  subst hk
  rcases hrow.2 with ⟨rfl, h0⟩ | ⟨g, cap, cur, rfl, hg, hgb, hnc, _, hcs, htk⟩
  · have hz : zs = [] := List.eq_nil_of_length_eq_zero h0
    subst hz
    refine (Try.strings_Join_none none 0 ⟨#[44]⟩ W).mono ?_
    rintro r w' ⟨rfl, rfl⟩
    exact ⟨rfl, Below.refl _ _⟩
  · have hlt := (Array.getElem?_eq_some_iff.1 hgb).1
    have hcells : ∀ (j : Nat) x, (zs.map typeW)[j]? = some x → W.cell? ⟨g, 0 + j, none⟩ = some (.string x) := by
      intro j x hx
      have hj : j < zs.length := by have := (List.getElem?_eq_some_iff.1 hx).1; simpa using this
      have h1 : W.cell? ⟨g, 0 + j, none⟩ = cur[j]? := by rw [Nat.zero_add]; simp [World.cell?, hgb]
      have h2 : ((zs.map typeW).map Value.string)[j]? = some (.string x) := by rw [List.getElem?_map, hx]; rfl
      rw [h1, ← h2, ← htk, List.getElem?_take_of_lt (by omega)]
      simp
    have e : (zs.map typeW).map (fun x => x.data.toList) = zs.map tyC := by simp [tyC]
    have hlen : (Lib.join ((zs.map typeW).map (fun x => x.data.toList)) [44]).length ≤ 140737488355328 := by
      rw [e]
      have := tyL_len zs hl
      show (tyL zs).length ≤ _
      omega
    have h := Try.strings_Join g 0 cap (zs.map typeW) ⟨#[44]⟩ W hcells hlt (by simp; omega) (by simp; omega) hlen
    rw [List.length_map] at h
    refine h.mono ?_
    rintro r w' ⟨rfl, hb⟩
    refine ⟨?_, hb⟩
    show Ending.returned (.string ⟨(Lib.join ((zs.map typeW).map (fun x => x.data.toList)) [44]).toArray⟩) = _
    rw [e]
    rfl

set_option maxRecDepth 100000 in
set_option maxHeartbeats 2000000 in
theorem faceArgsText_any (lo : Nat) (aa : Option Addr) (ca : Nat) (args : List Int) (w : World) (ha : IsInts w lo w.heap.size aa args) (h4 : args.length ≤ 4) :
    Calls Try.prog 29 #[.slice aa args.length ca] w fun r w' => r = .returned (.string ⟨(tyL args).toArray⟩) ∧ Below w.heap.size w w' := by
  obtain ⟨i0, hi, hz0, hz1, hz2⟩ := info_parts wsinfoF
  have HAA := hide ha
  clear ha
  obtain ⟨T, hT⟩ : ∃ T : ByteArray, T = ⟨(tyL args).toArray⟩ := ⟨_, rfl⟩
  rw [← hT]
  have HTT := hide hT
  clear hT
  go_enter Try.func29, Try.ntmps29
  go_wp2
  go_loopw [3, 5, 8] (fun o _ i wr => ∃ j : Nat, j ≤ args.length ∧ i = .int .i64 j ∧ wr.ownsRow w.heap.size 9 1 o j (((args.take j).map typeW).map Value.string) ∧ Hid (Below w.heap.size w wr)) (fun _ _ i _ => args.length - (intOf i).toNat)
  case atStart => exact ⟨0, Nat.zero_le _, rfl, World.ownsRow_nil _ _ _ _, hide (Below.refl _ _)⟩
  case round =>
    obtain ⟨j, hj, rfl, hrow, HBI⟩ := hrel
    by_cases hpj : j < args.length
    · rcases (unhide HAA).kept (unhide HBI) (unhide HBI).size with h | ⟨b3, off3, rfl, hb3, hn3, hc3⟩
      · rw [h] at hpj; simp at hpj
      have hck := hc3 j hpj
      have htj : args.take (j + 1) = args.take j ++ [args[j]] := List.take_succ_eq_append_getElem hpj
      obtain ⟨x, hx⟩ : ∃ x, args[j]'hpj = x := ⟨_, rfl⟩
      rw [hx] at hck htj
      have HTJ := hide htj
      obtain ⟨vs, cp, rfl⟩ := fown_slice hrow
      have HROW := hide hrow
      have hszI : w.heap.size ≤ wr.heap.size := (unhide HBI).size
      clear hc3 hx htj
      go_wp2_with fail
      refine (TreeTypeI_any _ _).mono ?_
      rintro r w4 ⟨rfl, rfl⟩
      go_wp2_with (at_builtin; refine wpList_append_own _ rfl _ _ 87 rfl w.heap.size 9 i0 (.string ⟨#[]⟩) 1 16 Try.underlying87 hi hz0 hz1 hz2 rfl (by decide) _ _ _ rfl (hrow.alloc _) ⟨wr.heap.size, 0, none⟩ 1 1 [.string (typeW x)] rfl rfl (cell_one_newF _ _ _) (by simp [Value.oneCell']) (by unfold maxLen; omega) (by omega) (by simp; omega) ?_; intro v2 w2 hown2 hgrow2 _; have hbb := fown_next (unhide HROW) hszI hown2 hgrow2; have HO := hide hown2; have HBB := hide hbb; clear hown2 hgrow2 hbb hrow hck)
      go_roundw
      case rel => exact ⟨j + 1, by omega, by go_num, by rw [unhide HTJ, List.map_append, List.map_append]; exact unhide HO, hide ((unhide HBI).trans (unhide HBB))⟩
      case measure => simp [intOf] <;> omega
    · have hje : j = args.length := by omega
      subst hje
      rw [List.take_length] at hrow
      obtain ⟨vs, cp, rfl⟩ := fown_slice hrow
      have HJN := hide (joinF wr _ _ _ _ args hrow h4)
      rw [← unhide HTT] at HJN
      clear hrow
      go_wp2_with fail
      refine (unhide HJN).mono ?_
      rintro r w2 ⟨rfl, hb2⟩
      have HB2 := hide ((unhide HBI).trans (hb2.mono (unhide HBI).size))
      clear hb2
      go_wp2
      go_ret
      exact ⟨rfl, unhide HB2⟩

set_option maxRecDepth 100000 in
set_option maxHeartbeats 4000000 in
theorem FaceTextI_any (lo : Nat) (a : Option Addr) (cap : Nat) (l : List TS) (w : World) (hk : IsSigs (IsSig w lo w.heap.size) w lo w.heap.size a l) (hl : l.length ≤ maxLen) :
    Calls Try.prog 12 #[.slice a l.length cap] w fun r w' => r = .returned (.string (if faceB l = true then ⟨(txL l).toArray⟩ else ⟨#[]⟩)) ∧ Below w.heap.size w w' := by
  obtain ⟨i0, hi, hz0, hz1, hz2⟩ := info_parts wsinfoF
  have HK := hide hk
  have HOK := hide (FaceOkI_any lo a cap l w hk hl)
  clear hk
  by_cases hg : ¬ Good l
  · have hf := faceB_no hg
    rw [hf] at HOK ⊢
    rw [if_neg (by simp)]
    go_enter Try.func12, Try.ntmps12
    go_wp2_with fail
    refine (unhide HOK).mono ?_
    rintro r w2 ⟨rfl, hb2⟩
    go_wp2
    go_ret
    exact ⟨rfl, hb2⟩
  replace hg := Classical.not_not.1 hg
  have hf := faceB_yes hg
  rw [hf] at HOK ⊢
  rw [if_pos rfl]
  have h8 : l.length ≤ 8 := hg.1
  have HG := hide hg
  clear hf hg hl
  go_enter Try.func12, Try.ntmps12
  go_wp2_with fail
  refine (unhide HOK).mono ?_
  rintro r w1 ⟨rfl, hb1⟩
  have HB0 := hide hb1
  clear hb1 HOK
  go_wp2
  go_loopw [11] (fun i wr => ∃ (k : Nat) (J : List UInt8), k ≤ l.length ∧ i = .int .i64 k ∧ J.length ≤ 800 ∧ Hid (J = txL (l.take k) ∧ J.length ≤ k * 100) ∧ Hid (Lib.IsBuilderF 65 5 w1.heap.size w1.heap.size (Lib.byteCells J) wr) ∧ Hid (Below w1.heap.size w1 wr)) (fun i _ => l.length - (intOf i).toNat)
  case atStart => exact ⟨0, [], Nat.zero_le _, rfl, by decide, hide ⟨rfl, by decide⟩, hide (Lib.IsBuilderF.of (Lib.fresh_isBuilder 65 5 w1)), hide ((Below.refl _ w1).alloc (Nat.le_refl _) _)⟩
  case round =>
    obtain ⟨k, J, hk, rfl, hJ, HJ, HBU, HB⟩ := hrel
    rename World => wo
    by_cases hp : k < l.length
    · rcases unhide HK with hq | ⟨b, off, rfl, hbl, hbn, hcs⟩
      · rw [hq] at hp; simp at hp
      have hBw := (unhide HB0).trans ((unhide HB).mono (unhide HB0).size)
      obtain ⟨c0, c1, c2, d0, d1, d2, hr⟩ := hcs k hp
      have hok := (unhide HG).2.1 k hp
      have htk : l.take (k + 1) = l.take k ++ [l[k]] := List.take_succ_eq_append_getElem hp
      obtain ⟨s, hs⟩ : ∃ s, l[k]'hp = s := ⟨_, rfl⟩
      rw [hs] at hr hok htk
      obtain ⟨aa, ca, hv, hzz, haa⟩ := hr
      simp only [Value.agg.injEq, Array.mk.injEq, List.cons.injEq, and_true] at hv
      obtain ⟨rfl, rfl, rfl⟩ := hv
      obtain ⟨h4, h8n⟩ := ok_args hok
      have e0 := (hBw.cell (p := ⟨b, off + k * 3, none⟩) hbn).trans d0
      have e1 := (hBw.cell (p := ⟨b, off + k * 3 + 1, none⟩) hbn).trans d1
      have e2 := (hBw.cell (p := ⟨b, off + k * 3 + 2, none⟩) hbn).trans d2
      have HAA := hide (haa.kept hBw hBw.size)
      have HLN := hide (lnL_len hok)
      have HTK := hide htk
      clear hcs hs htk hzz haa d0 d1 d2 hBw hok
      go_wp2
      have HSZ : Hid (wo.heap.size < (wo.alloc (.cells #[.string s.name, .slice aa s.args.length ca, .int .i64 s.type] 48)).heap.size) := hide (by simp)
      obtain ⟨wr, hwr⟩ : ∃ wr, wr = wo.alloc (.cells #[.string s.name, .slice aa s.args.length ca, .int .i64 s.type] 48) := ⟨_, rfl⟩
      rw [← hwr] at HSZ ⊢
      have HBO : Hid (Below wo.heap.size wo wr) := hide (by rw [hwr]; exact (Below.refl _ _).alloc (Nat.le_refl _) _)
      have n1 : Blk wr wo.heap.size [.string s.name, .slice aa s.args.length ca, .int .i64 s.type] := by rw [hwr]; exact Blk.new wo _ _
      have q0 := n1.cellAt (i := 0) rfl
      have q1 := n1.cellAt (i := 1) rfl
      have q2 := n1.cellAt (i := 2) rfl
      have HJN := hide (fun (W : World) (hb : Below wr.heap.size wr W) => faceArgsText_any _ aa ca s.args W (((unhide HAA).kept ((unhide HBO).trans (hb.mono (unhide HBO).size)) (by have := (unhide HBO).size; have := hb.size; omega))) h4)
      clear n1 hwr e0 e1 e2
      obtain ⟨T, hT⟩ : ∃ T : ByteArray, T = ⟨(tyL s.args).toArray⟩ := ⟨_, rfl⟩
      rw [← hT] at HJN
      obtain ⟨o2, g2⟩ : ∃ o2, s.name ++ ⟨#[40]⟩ = o2 := ⟨_, rfl⟩
      obtain ⟨o3, g3⟩ : ∃ o3, o2 ++ T = o3 := ⟨_, rfl⟩
      obtain ⟨o4, g4⟩ : ∃ o4, o3 ++ ⟨#[41]⟩ = o4 := ⟨_, rfl⟩
      obtain ⟨o5, g5⟩ : ∃ o5, o4 ++ typeW s.type = o5 := ⟨_, rfl⟩
      obtain ⟨o6, g6⟩ : ∃ o6, o5 ++ ⟨#[10]⟩ = o6 := ⟨_, rfl⟩
      have HO6 : Hid (o6.data.toList = lnL s) := hide (by
        rw [← g6, ← g5, ← g4, ← g3, ← g2, hT]
        simp [lnL, key, tyC, ByteArray.data_append])
      have hs6 : o6.size ≤ 100 := by
        have := unhide HLN
        rw [← unhide HO6] at this
        simpa using this
      have s2 : o2.size = s.name.size + 1 := by rw [← g2, ByteArray.size_append]; rfl
      have s3 : o3.size = o2.size + T.size := by rw [← g3, ByteArray.size_append]
      have s4 : o4.size = o3.size + 1 := by rw [← g4, ByteArray.size_append]; rfl
      have s5 : o5.size = o4.size + (typeW s.type).size := by rw [← g5, ByteArray.size_append]
      have s6 : o6.size = o5.size + 1 := by rw [← g6, ByteArray.size_append]; rfl
      have k2 : ¬ 9223372036854775807 < s.name.size + 1 := by omega
      have k3 : ¬ 9223372036854775807 < o2.size + T.size := by omega
      have k4 : ¬ 9223372036854775807 < o3.size + 1 := by omega
      have k5 : ¬ 9223372036854775807 < o4.size + (typeW s.type).size := by omega
      have k6 : ¬ 9223372036854775807 < o5.size + 1 := by omega
      have HWS := hide (fun (W : World) (hb : Below wr.heap.size wr W) => WriteString_any w1.heap.size w1.heap.size (Lib.byteCells J) o6 W (builder_kept (unhide HBU) ((unhide HBO).trans (hb.mono (unhide HBO).size))) (by rw [Lib.byteCells_length]; omega) (by have := hb.size; have := (unhide HBO).size; have := (unhide HB).size; omega))
      clear hT s2 s3 s4 s5 s6 HLN
      go_region_with (first
        | (go_at_call 29; refine (unhide HJN _ (Below.refl _ _).drew).mono ?_; rintro r w2 ⟨rfl, hb2⟩; have hb2' : Below wr.heap.size wr w2 := (Below.refl _ _).drew.trans hb2; have z0 := (hb2'.cell (p := ⟨wo.heap.size, 0, none⟩) (unhide HSZ)).trans q0; have z2 := (hb2'.cell (p := ⟨wo.heap.size, 2, none⟩) (unhide HSZ)).trans q2; have HW2 := hide hb2'; clear hb2 hb2')
        | (go_at_call 30; refine (TreeTypeI_any _ _).mono ?_; rintro r w4 ⟨rfl, rfl⟩)
        | (go_at_call 28; refine (unhide HWS w2 (unhide HW2)).mono ?_; rintro r w3 ⟨rfl, hbu, hl3, _⟩; have HBU3 := hide hbu; have HL3 := hide hl3; clear hbu hl3))
      all_goals
        have HB4 : Hid (Below w1.heap.size w1 w3) := hide (((unhide HB).trans (((unhide HBO).trans ((unhide HW2).mono (unhide HBO).size)).mono (unhide HB).size)).trans (unhide HL3))
        have HBU4 : Hid (Lib.IsBuilderF 65 5 w1.heap.size w1.heap.size (Lib.byteCells (J ++ lnL s)) w3) := hide (by rw [Lib.byteCells_append, ← unhide HO6]; exact unhide HBU3)
        have HJ4 : Hid (J ++ lnL s = txL (l.take (k + 1)) ∧ (J ++ lnL s).length ≤ (k + 1) * 100) := hide (by
          obtain ⟨h1, h2⟩ := unhide HJ
          refine ⟨by rw [unhide HTK, txL_snoc, ← h1], ?_⟩
          have h3 : (lnL s).length ≤ 100 := by rw [← unhide HO6]; simpa using hs6
          rw [List.length_append]; omega)
        have hJ4 : (J ++ lnL s).length ≤ 800 := by have := (unhide HJ4).2; omega
        clear q0 q1 q2
        go_wp2
        go_roundw
        case rel => exact ⟨k + 1, _, by omega, by go_num, hJ4, HJ4, HBU4, HB4⟩
        case measure => simp [intOf] <;> omega
    · have HE : Hid (txL l = J) := hide (by rw [(unhide HJ).1, List.take_of_length_le (by omega)])
      go_wp2_with fail
      refine (Try.Builder_String_any_k w1.heap.size w1.heap.size J wo (unhide HBU) (unhide HB).size).mono ?_
      rintro e w2 ⟨rfl, _, hl2, _⟩
      have HL2 := hide ((unhide HB0).trans (((unhide HB).trans hl2).mono (unhide HB0).size))
      clear hl2
      go_wp2
      go_ret
      exact ⟨ret_strT (by rw [unhide HE]), unhide HL2⟩
end Go.Proofs.Ytifcfjjlgehopaa
