/- The walk of impl.FaceOk. Conditions: the face can be read. -/
import Derived.Test.YtifcfjjlgehopaaFm
import Derived.Test.YtifcfjjlgehopaaFi
namespace Go.Proofs.Ytifcfjjlgehopaa
open Go.RowKit Go.PlainAid

open Go.Maps Go.Sort
theorem own_otherF {W W' : World} {base e s n B : Nat} {v : Value} {xs : List Value} (h : W.ownsRow base e s v n xs) (hg : W.grownBy W' (some B)) (hB : B < base) : W'.ownsRow base e s v n xs :=
  h.kept hg (by
    cases hv : v.ownBlock with
    | none => exact .inl rfl
    | some k => exact .inr (fun e => by
        have := (h.lt k hv).1
        simp at e; omega))
theorem below_grF {w w' W : World} {B n : Nat} (hb : Below n w W) (hg : W.grownBy w' (some B)) (hn : n ≤ B) (hs : n ≤ W.heap.size) : Below n w w' :=
  hb.grown hg hs (fun k e => by simp at e; omega)
theorem ok_args {s : TS} (h : s.ok = true) : s.args.length ≤ 4 ∧ s.name.size ≤ 8 := by
  unfold TS.ok at h
  simp only [Bool.and_eq_true, decide_eq_true_eq] at h
  refine ⟨h.2.1, ?_⟩
  have := h.1
  unfold nameB at this
  simp only [Bool.and_eq_true, decide_eq_true_eq] at this
  simpa using this.1.1.2

set_option maxRecDepth 100000 in
set_option maxHeartbeats 4000000 in
theorem FaceOkI_any (lo : Nat) (a : Option Addr) (cap : Nat) (l : List TS) (w : World) (hk : IsSigs (IsSig w lo w.heap.size) w lo w.heap.size a l) (hl : l.length ≤ maxLen) :
    Calls Try.prog 9 #[.slice a l.length cap] w fun r w' => r = .returned (.bool (faceB l)) ∧ Below w.heap.size w w' := by
  have K : Keyed Try.prog 9 := string_keyed Try.underlying9
  obtain ⟨i0, hi, hz0, hz1, hz2⟩ := info_parts infoLine
  unfold maxLen at hl
  have HK := hide hk
  clear hk
  by_cases h8 : 8 < l.length
  · have HR : Hid (faceB l = false) := hide (faceB_no (fun h => by have := h.1; omega))
    go_enter Try.func9, Try.ntmps9
    go_wp2
    go_ret
    exact ⟨ret_bool (unhide HR).symm, Below.refl _ _⟩
  have H8 : Hid (l.length ≤ 8) := hide (by omega)
  have hmm := @run_makeMap Try.prog
  go_enter Try.func9, Try.ntmps9
  go_wp2
  clear hmm
  go_loopw [3, 13] (fun o i wr => ∃ (k : Nat) (D : DataW Value), k ≤ l.length ∧ i = .int .i64 k ∧ wr.ownsRow (w.heap.size + 1) 55 6 o k (flatL (l.take k)) ∧ Hid (wr.ownsMap Try.prog 9 RH w.heap.size k D) ∧ Hid (Tab D (l.take k)) ∧ Hid (∀ j (hj : j < l.length), j < k → l[j].ok = true) ∧ Hid (Below w.heap.size w wr) ∧ w.heap.size + 1 ≤ wr.heap.size) (fun _ i _ => l.length - (intOf i).toNat)
  case atStart =>
    exact ⟨0, .map [], Nat.zero_le _, rfl, World.ownsRow_nil _ _ _ _, hide (World.ownsMap_made w Try.prog 9 RH), hide Tab.nil, hide (fun j _ hj => absurd hj (Nat.not_lt_zero _)), hide ((Below.refl _ _).alloc (Nat.le_refl _) _), by simp⟩
  case round =>
    obtain ⟨k, D, hk, rfl, hrow, HM, HT, HI, HB, hsz⟩ := hrel
    by_cases hp : k < l.length
    · rcases unhide HK with hq | ⟨b, off, rfl, hbl, hbn, hcs⟩
      · rw [hq] at hp; simp at hp
      obtain ⟨c0, c1, c2, d0, d1, d2, hr⟩ := hcs k hp
      have htk : l.take (k + 1) = l.take k ++ [l[k]] := List.take_succ_eq_append_getElem hp
      have HI1 := hide (fun (h : (l[k]'hp).ok = false) => faceB_no (l := l) (fun g => by have := g.2.1 k hp; rw [h] at this; cases this))
      have HI2 := hide (fun (h : (l[k]'hp).ok = true) (j : Nat) (hj : j < l.length) (hjk : j < k + 1) => show l[j].ok = true from by
        by_cases e : j = k
        · subst e; exact h
        · exact unhide HI j hj (by omega))
      obtain ⟨s, hs⟩ : ∃ s, l[k]'hp = s := ⟨_, rfl⟩
      rw [hs] at hr htk HI1 HI2
      have HSIG := hide (fun (W : World) (hb : Below w.heap.size w W) => hr.kept hb hb.size)
      obtain ⟨aa, ca, hv, hzz, haa⟩ := hr
      simp only [Value.agg.injEq, Array.mk.injEq, List.cons.injEq, and_true] at hv
      obtain ⟨rfl, rfl, rfl⟩ := hv
      have e0 := ((unhide HB).cell (p := ⟨b, off + k * 3, none⟩) hbn).trans d0
      have e1 := ((unhide HB).cell (p := ⟨b, off + k * 3 + 1, none⟩) hbn).trans d1
      have e2 := ((unhide HB).cell (p := ⟨b, off + k * 3 + 2, none⟩) hbn).trans d2
      have HTK := hide htk
      obtain ⟨vs, cp, rfl⟩ := fown_slice hrow
      have HROW := hide hrow
      clear hcs hs htk hzz haa d0 d1 d2 HI hrow
      go_wp2_with fail
      refine (faceSigOk_any lo _ s _ (unhide HSIG _ ((unhide HB).alloc (by omega) _))).mono ?_
      rintro r w2 ⟨rfl, hb2⟩
      have hbw : Below wr.heap.size wr w2 := ((Below.refl _ wr).alloc (Nat.le_refl _) _).trans (hb2.mono (by simp))
      have n1 : Blk w2 wr.heap.size [.string s.name, .slice aa s.args.length ca, .int .i64 s.type] := (Blk.new wr [.string s.name, .slice aa s.args.length ca, .int .i64 s.type] 48).below hb2 (by simp)
      have hs2 : wr.heap.size < w2.heap.size := by have := hb2.size; rw [alloc_size] at this; omega
      have HB2 := hide ((unhide HB).trans (hbw.mono (unhide HB).size))
      have HBW := hide hbw
      have q0 := n1.cellAt (i := 0) rfl
      have q1 := n1.cellAt (i := 1) rfl
      have q2 := n1.cellAt (i := 2) rfl
      have N1 := hide n1
      clear hb2 hbw n1 e0 e1 e2
      cases hok : s.ok with
      | false =>
        have HR := hide (unhide HI1 hok)
        go_wp2
        go_ret
        exact ⟨ret_bool (unhide HR).symm, unhide HB2⟩
      | true =>
        have HI3 := hide (unhide HI2 hok)
        obtain ⟨h4, h8n⟩ := ok_args hok
        have HL := hide (fun (W : World) (hb : Below w.heap.size w W) => faceLineOf_any lo _ s W (unhide HSIG W hb) h4)
        clear HI1 HI2 hok HSIG
        go_wp2_with fail
        refine (unhide HL _ (unhide HB2)).mono ?_
        rintro r w3 ⟨rfl, hb3⟩
        have hrow3 := fown_kept (fown_kept (unhide HROW) (unhide HBW)) hb3
        have hbw3 : Below wr.heap.size wr w3 := (unhide HBW).trans (hb3.mono (unhide HBW).size)
        have hm3 := owns_below (unhide HM) hbw3 (by omega)
        have n3 := (unhide N1).below hb3 hs2
        have hs3 : wr.heap.size < w3.heap.size := by have := hb3.size; omega
        have hneS : some wr.heap.size ≠ (Value.slice vs k cp).ownBlock := fun e => by have := ((unhide HROW).lt _ e.symm).2; omega
        have hneM : some w.heap.size ≠ (Value.slice vs k cp).ownBlock := fun e => by have := ((unhide HROW).lt _ e.symm).1; omega
        have HROW3 := hide hrow3
        have HM3 := hide hm3
        have N3 := hide n3
        have HBW3 := hide hbw3
        have HB3 := hide ((unhide HB2).trans (hb3.mono (unhide HB2).size))
        clear hb3 hm3 n3 hbw3 q0 q1 q2 N1 HB2 HM HBW HROW
        go_wp2_with (at_builtin; refine wpList_append_own _ rfl _ _ 50 rfl (w.heap.size + 1) 55 i0 (.agg #[.string ⟨#[]⟩, .int .i64 0, .int .i64 0, .int .i64 0, .int .i64 0, .int .i64 0]) 6 56 Try.underlying50 hi hz0 hz1 hz2 rfl (by decide) _ _ _ rfl (hrow3.alloc _) ⟨w3.heap.size, 0, none⟩ 1 1 (lineC s) rfl rfl (news_line w3 s 55) (by simp [lineC, Value.oneCell']) (by unfold maxLen; omega) (by omega) (by simp; omega) ?_; intro v2 w4 hown4 hgrow4 _; have hbb := fown_next (unhide HROW3) (by omega) hown4 hgrow4; obtain ⟨vs2, cp2, rfl⟩ := fown_slice hown4; have hq : ∀ i, w4.cell? ⟨wr.heap.size, i, none⟩ = w3.cell? ⟨wr.heap.size, i, none⟩ := (fun i => (hgrow4.cell_far ⟨wr.heap.size, i, none⟩ (by simp; omega) hneS).trans (((Below.refl _ w3).alloc (Nat.le_refl _) _).cell (p := ⟨wr.heap.size, i, none⟩) hs3)); have q0 := (hq 0).trans ((unhide N3).cellAt (i := 0) rfl); have q1 := (hq 1).trans ((unhide N3).cellAt (i := 1) rfl); have q2 := (hq 2).trans ((unhide N3).cellAt (i := 2) rfl); have HM4 := hide (((unhide HM3).alloc _).kept hgrow4 hneM); have HO4 := hide hown4; have HB4 := hide ((unhide HB3).trans (hbb.mono (Nat.le_succ _))); have hs4 : w3.heap.size ≤ w4.heap.size := hbb.size; clear hown4 hgrow4 hbb hq hrow3 HROW3 N3 HM3 HB3 hneS hneM)
        have HST := hide (fun (W : World) (hb : Below w4.heap.size w4 W) => (owns_below (unhide HM4) hb (by omega)).store K Try.underlying52 (by unfold maxLen; omega) (key := .string s.name) (val := lineV s) (kl := .string (key s)) (d := .held (lineV s)) (ps := []) (WideMaps.keyOf_string_mk Try.underlying9 (by unfold maxLen; omega)) rfl)
        go_region_with (go_at_call 22; refine (unhide HL _ (unhide HB4).drew).mono ?_; rintro r w5 ⟨rfl, hb5⟩; have hb5' : Below w4.heap.size w4 w5 := (Below.refl _ _).drew.trans hb5; have z0 := (hb5'.cell (p := ⟨wr.heap.size, 0, none⟩) (by show wr.heap.size < _; omega)).trans q0; obtain ⟨w6, hrun, hown6, hturn⟩ := unhide HST w5 hb5'; have HO6 := hide hown6; have HTU := hide hturn; have HB5 := hide hb5'; clear hown6 hturn hb5 hb5')
        all_goals
          clear q0 q1 q2 hrun
          have HR6 : Hid (w6.ownsRow (w.heap.size + 1) 55 6 (.slice vs2 (k + 1) cp2) (k + 1) (flatL (l.take (k + 1)))) := hide (by
            rw [unhide HTK, flatL_snoc]
            exact own_otherF (fown_kept (unhide HO4) (unhide HB5)) (unhide HTU).grown (Nat.lt_succ_self _))
          have HB6 : Hid (Below w.heap.size w w6) := hide (below_grF ((unhide HB4).trans ((unhide HB5).mono (by omega))) (unhide HTU).grown (Nat.le_refl _) (by have := (unhide HB5).size; omega))
          have HS6 : w.heap.size + 1 ≤ w6.heap.size := by have := (unhide HTU).grown.size; have := (unhide HB5).size; omega
          have HT6 : Hid (Tab (D.put (.string (key s)) (.held (lineV s))) (l.take (k + 1))) := hide (by rw [unhide HTK]; exact (unhide HT).put (unhide HM4).isMap s)
          go_wp2
          go_roundw
          case rel => exact ⟨k + 1, _, by omega, by go_num, unhide HR6, HO6, HT6, HI3, HB6, HS6⟩
          case measure => simp [intOf] <;> omega
    · have hkl : k = l.length := by omega
      subst hkl
      rw [List.take_length] at hrow HT
      obtain ⟨a1, cp, rfl, _, hlines⟩ := fown_lines hrow
      have HLN := hide hlines
      have HTD := hide (told_any w.heap.size l.length D l wr (unhide HM) (unhide H8) (unhide HT))
      have HG : Hid (Nbr l → faceB l = true) := hide (fun hn => faceB_yes ⟨unhide H8, fun j hj => unhide HI j hj (by omega), hn⟩)
      clear hrow hlines
      go_wp2_with fail
      refine (unhide HTD).mono ?_
      rintro r w2 ⟨v, ts, rfl, hrow2, hT2, hb2⟩
      obtain ⟨a2, cp2, rfl, _, hlines2⟩ := fown_lines hrow2
      have hlines3 : IsLines w2 a1 l := by
        rcases unhide HLN with h | ⟨g, e, hg, hc⟩
        · exact .inl h
        · exact .inr ⟨g, e, by have := hb2.size; omega, fun j hj i hi => (hb2.cell (p := ⟨g, j * 6 + i, none⟩) hg).trans (hc j hj i hi)⟩
      have HEQ := hide (equalLines_any a1 a2 cp cp2 l ts w2 hlines3 hlines2 (by unfold maxLen; have := unhide H8; omega))
      have HR : Hid (allB l ts = faceB l) := hide (by
        cases hb : allB l ts with
        | true => exact (unhide HG ((told_iff hT2).1 hb)).symm
        | false => exact (faceB_no (fun g => by have := (told_iff hT2).2 g.2.2; rw [hb] at this; cases this)).symm)
      have HB2 := hide ((unhide HB).trans (hb2.mono (unhide HB).size))
      clear hrow2 hT2 hb2 hlines2 hlines3
      go_wp2_with fail
      refine (unhide HEQ).mono ?_
      rintro r w3 ⟨rfl, hb3⟩
      have HB3 := hide ((unhide HB2).trans (hb3.mono (unhide HB2).size))
      clear hb3
      go_wp2
      go_ret
      exact ⟨ret_bool (unhide HR), unhide HB3⟩
end Go.Proofs.Ytifcfjjlgehopaa
