/- The walk of DrawMeanPrim. Conditions: the slice that was handed in can be read. -/
import Derived.Test.YtjnahhalgckggaaBb6
namespace Go.Proofs.Ytjnahhalgckggaa
open Go.RowKit Go.PlainAid

theorem primAt_n (k : Nat) (h : k < 16) : primN (primAt k).toList = k + 1 := by
  have : k = 0 ∨ k = 1 ∨ k = 2 ∨ k = 3 ∨ k = 4 ∨ k = 5 ∨ k = 6 ∨ k = 7 ∨ k = 8 ∨ k = 9 ∨ k = 10 ∨ k = 11 ∨ k = 12 ∨ k = 13 ∨ k = 14 ∨ k = 15 := by omega
  rw [primAt_list]
  rcases this with rfl | rfl | rfl | rfl | rfl | rfl | rfl | rfl | rfl | rfl | rfl | rfl | rfl | rfl | rfl | rfl <;> decide
theorem OwnI.elt {w : World} {lo lo' : Nat} {g : Option Nat} {v : Value} {x : MV} (h : OwnI w lo' w.heap.size v x.row) (hd : Gd x) (hl : lo ≤ lo') (hg : ∀ k, g = some k → k < lo') : IsElt w lo g (x, v) := by
  obtain ⟨a, c, hv, h⟩ := h
  refine ⟨hd, a, c, hv, ?_⟩
  rcases h with h | ⟨b, h1, h2, h3, h4, _⟩
  · exact .inl h
  · exact .inr ⟨b, 0, h1, by omega, h3, fun e => by have := hg b e.symm; omega, fun j hj => by rw [Nat.zero_add]; exact h4 j hj⟩
theorem OwnI.movedG {B : Nat} {w w' : World} {lo n : Nat} {v : Value} {zs : List Int} (h : OwnI w lo n v zs) (hm : MovedG B w w') (hB : B < lo) (hn : n ≤ w.heap.size) : OwnI w' lo n v zs :=
  h.same (fun b h1 h2 => ⟨fun j => World.cell?_of_block (w := w) (a := ⟨b, j, none⟩) (hm.2 b (by omega) (by omega)), fun j => World.frozen?_of_block (w := w) (a := ⟨b, j, none⟩) (hm.2 b (by omega) (by omega))⟩) (Nat.le_refl _) (Nat.le_refl _)
theorem tpArgs_pos (n : Nat) (h : 1 ≤ n) : 1 ≤ (tpArgs n).length := by
  unfold tpArgs
  rw [if_neg (by omega)]
  repeat' split
  all_goals simp

set_option maxRecDepth 100000 in
set_option maxHeartbeats 8000000 in
theorem DrawMeanPrim_any (a : Option Addr) (len cap : Nat) (w : World) (hl : len ≤ cap) (hm : cap ≤ maxLen) (h : Src w w.heap.size a len) :
    Calls Try.prog 5 #[.slice a len cap] w fun e w' => ∃ (s : ByteArray) (a' : Option Addr) (c' : Nat) (xs : List MV), e = .returned (.tuple #[.string s, .slice a' xs.length c']) ∧ xs.length ≤ 4 ∧ DVals w' a' xs ∧ Below w.heap.size w w' := by
  have HO := hide (l23Open_any a len cap w hl hm h)
  clear h hl hm
  go_enter Try.func5, Try.ntmps5
  go_wp2_with fail
  refine (unhide HO).mono ?_
  rintro e w1 ⟨len', cap', rfl, hrd, hb, hsz⟩
  have HR := hide hrd
  have HB := hide hb
  have HZ := hide hsz
  clear hrd hb hsz HO
  go_wp2_with fail
  refine (l2Prims_any w1).mono ?_
  rintro e w2 ⟨rfl, hc2, hb2⟩
  have HS1 : Hid (w1.heap.size = w.heap.size + 1) := HZ
  have HR2 := hide ((unhide HR).kept (hb2.mono (by rw [unhide HS1]; exact Nat.le_refl _)))
  have HB2 := hide ((unhide HB).trans (hb2.mono (unhide HB).size))
  have HC2 := hide hc2
  have HZ2 := hide hb2.size
  clear hc2 hb2 HR HB
  go_wp2_with fail
  refine (pick_abs w.heap.size a len' cap' 0 16 w2 (unhide HR2) (by omega) (by omega)).mono ?_
  rintro e w3 ⟨i, rfl, i0, i1, hr3, hm3⟩
  have i2 := i1 (by omega)
  obtain ⟨k0, rfl⟩ := Int.eq_ofNat_of_zero_le i0
  have hk0 : k0 < 16 := by omega
  have hcs : w3.cell? ⟨w1.heap.size, k0, none⟩ = some (.string (primAt k0)) := (World.cell?_of_block (w := w2) (a := ⟨w1.heap.size, k0, none⟩) (hm3.2.2 w1.heap.size (by rw [unhide HS1]; omega))).trans (unhide HC2 k0 hk0)
  have HR3 := hide hr3
  have HB3 := hide ((unhide HB2).trans hm3.1)
  have HS3 : Hid (w.heap.size + 1 ≤ w3.heap.size) := hide (by rw [hm3.2.1]; have := unhide HZ2; have := unhide HS1; omega)
  have HTP := hide (TypePrimS_any (primAt k0) w3)
  rw [primAt_n k0 hk0] at HTP
  have hargs := tpArgs_len (k0 + 1)
  have hpos := tpArgs_pos (k0 + 1) (by omega)
  obtain ⟨nm, hnm⟩ : ∃ nm, primAt k0 = nm := ⟨_, rfl⟩
  rw [hnm] at hcs HTP
  obtain ⟨ws, hws⟩ : ∃ ws, tpArgs (k0 + 1) = ws := ⟨_, rfl⟩
  unfold TPost at HTP
  rw [hws] at HTP hargs hpos
  obtain ⟨N, hN⟩ : ∃ N, ws.length = N := ⟨_, rfl⟩
  have HN := hide hN
  rw [hN] at hargs hpos
  clear hr3 hm3 i1 HR2 HB2 HC2 HZ2 hnm hws hN
  go_wp2_with fail
  refine (unhide HTP).mono ?_
  rintro e w4 ⟨v4, rfl, ho4, hb4⟩
  obtain ⟨a4, c4, hv4⟩ := ho4.form
  subst hv4
  rw [unhide HN] at ho4 ⊢
  have HO4 := hide ho4
  have HB4 := hide ((unhide HB3).trans (hb4.mono (unhide HB3).size))
  have HS4 : Hid (w3.heap.size ≤ w4.heap.size) := hide hb4.size
  have HR4 := hide ((unhide HR3).kept (hb4.mono (unhide HS3)))
  clear ho4 hb4 HTP HR3 hcs
  have HVV : Hid (OwnV (w4.alloc (.cells #[] 28)) w4.heap.size (.slice (some ⟨w4.heap.size, 0, none⟩) 0 0) []) := hide ⟨World.ownsRow_made w4 #[] 0 (Nat.le_refl _) (by unfold maxLen; omega) (by simp), fun p hp => absurd hp (by simp)⟩
  go_wp2
  go_loopw [8, 9] (fun v i wr => ∃ (k q : Nat) (ps : List (MV × Value)) (va : Option Addr) (vc : Nat), k ≤ N ∧ i = .int .i64 k ∧ v = .slice va k vc ∧ q ≤ 1 + 20 * k ∧ Hid (ps.length = k) ∧ Hid (IsRd wr w.heap.size a len' cap' q) ∧ Hid (OwnV wr w4.heap.size (.slice va k vc) ps) ∧ Hid (OwnI wr w3.heap.size w4.heap.size (.slice a4 N c4) ws) ∧ Hid (Below w.heap.size w wr) ∧ Hid (w4.heap.size < wr.heap.size)) (fun _ i _ => N - (intOf i).toNat)
  case atStart => exact ⟨0, 1, [], _, _, Nat.zero_le _, rfl, rfl, by omega, hide rfl, hide ((unhide HR4).kept ((below_new w4 _).mono (Nat.le_trans (unhide HS3) (unhide HS4)))), HVV, hide ((unhide HO4).kept (below_new w4 _) (Nat.le_refl _)), hide ((unhide HB4).alloc (unhide HB4).size _), hide (by simp)⟩
  case round =>
    obtain ⟨k, q, ps, va, vc, hk, rfl, rfl, hq, HP, HRr, HVr, HWr, HBr, HSr⟩ := hrel
    by_cases hp : k < N
    · obtain ⟨wa, wc, hwv, hwi⟩ := (unhide HWr)
      rcases hwi with hwi | ⟨wb, hwa, hwl, hwn, hwcs, _⟩
      · have := unhide HN; rw [hwi] at this; simp at this; omega
      have hpw : k < ws.length := by rw [unhide HN]; exact hp
      have hck := hwcs k hpw
      obtain ⟨tk, htk⟩ : ∃ t, ws[k] = t := ⟨_, rfl⟩
      rw [htk] at hck
      simp only [Value.slice.injEq] at hwv
      obtain ⟨e1, e2, e3⟩ := hwv
      rw [hwa] at e1
      subst e1
      clear hwcs htk e2 e3 hwa
      have hwlt : wb < wr.heap.size := Nat.lt_trans hwn (unhide HSr)
      go_wp2_with fail
      refine (l22Val_any tk w.heap.size a len' cap' q wr (unhide HRr) (by omega) (Nat.lt_of_lt_of_le (Nat.lt_succ_self _) (Nat.le_trans (unhide HS3) (Nat.le_trans (unhide HS4) (Nat.le_of_lt (unhide HSr)))))).mono ?_
      rintro e w5 ⟨x, xv, q', rfl, hox, hgd, hr5, hq5, hm5⟩
      obtain ⟨xa, xc, rfl⟩ := hox.form
      have hV5 := (unhide HVr).moved hm5 (Nat.lt_of_lt_of_le (Nat.lt_succ_self _) (Nat.le_trans (unhide HS3) (unhide HS4)))
      have hE5 : IsElt w5 w4.heap.size (Value.slice va k vc).ownBlock (x, .slice xa x.row.length xc) := hox.elt hgd (Nat.le_of_lt (unhide HSr)) (fun z hz => ((unhide HVr).row.lt z hz).2)
      have hs5 : wr.heap.size ≤ w5.heap.size := hm5.1.size
      obtain ⟨g6, c6, w6, r6, o6, y6⟩ := hV5.app (Nat.le_trans (Nat.le_of_lt (unhide HSr)) hs5) (by have := unhide HP; omega) (x, .slice xa x.row.length xc) hE5
      rw [unhide HP] at r6 o6
      dsimp only at r6
      have hvb : ∀ z, (Value.slice va k vc).ownBlock = some z → w4.heap.size ≤ z := fun z hz => (hV5.row.lt z hz).1
      have HR6 := hide (hr5.kept (((Below.refl (w.heap.size + 1) w5).alloc (by have := unhide HS3; have := unhide HS4; have := unhide HSr; omega) _).grown y6 (by rw [alloc_size]; have := unhide HS3; have := unhide HS4; have := unhide HSr; omega) (fun z hz => Nat.le_trans (Nat.le_trans (unhide HS3) (unhide HS4)) (hvb z hz))))
      have HB6 := hide (((unhide HBr).trans hm5.1).trans (((Below.refl w.heap.size w5).alloc (by have := unhide HS3; have := unhide HS4; have := unhide HSr; omega) _).grown y6 (by rw [alloc_size]; have := unhide HS3; have := unhide HS4; have := unhide HSr; omega) (fun z hz => Nat.le_trans (Nat.le_trans (Nat.le_succ _) (Nat.le_trans (unhide HS3) (unhide HS4))) (hvb z hz))))
      have HO6 := hide o6
      have HS6 : Hid (w4.heap.size < w6.heap.size) := hide (by have := y6.size; rw [alloc_size] at this; have := unhide HSr; omega)
      have HL6 : Hid ((ps ++ [(x, Value.slice xa x.row.length xc)]).length = k + 1) := hide (by rw [List.length_append, unhide HP]; rfl)
      have HW6 : Hid (OwnI w6 w3.heap.size w4.heap.size (.slice (some ⟨wb, 0, none⟩) N c4) ws) := hide (by
        have h5 := (unhide HWr).movedG hm5 (unhide HS3) (Nat.le_of_lt (unhide HSr))
        exact h5.kept (((Below.refl w4.heap.size w5).alloc (by have := unhide HSr; omega) _).grown y6 (by rw [alloc_size]; have := unhide HSr; omega) hvb) (Nat.le_refl _))
      obtain ⟨XL, hXL⟩ : ∃ t, x.row.length = t := ⟨_, rfl⟩
      rw [hXL] at r6 HO6 HL6 ⊢
      clear hV5 hE5 hox hgd hr5 hm5 o6 y6 hvb hXL
      go_wp2_with (at_builtin; refine wpList_run rfl (.tmp 29) (.tmp 36) 23 rfl rfl (.slice va k vc) (.slice (some ⟨w5.heap.size, 0, none⟩) 1 1) rfl rfl (.slice (some ⟨g6, 0, none⟩) (k + 1) c6) w6 r6 ?_)
      go_roundw
      case rel => exact ⟨k + 1, q', _, some ⟨g6, 0, none⟩, c6, by omega, by go_num, rfl, by omega, HL6, HR6, HO6, HW6, HB6, HS6⟩
      case measure => simp [intOf]; omega
    · have hkN : k = N := by omega
      subst hkN
      go_wp2_with fail
      refine (pick_abs w.heap.size a len' cap' q 16 wr (unhide HRr) (by omega) (by omega)).mono ?_
      rintro e w5 ⟨i, rfl, j0, j1, hr5, hm5⟩
      have j2 := j1 (by omega)
      clear j1
      have HRn := hide hr5
      have HVn := hide ((unhide HVr).moved hm5.g (Nat.lt_of_lt_of_le (Nat.lt_succ_self _) (Nat.le_trans (unhide HS3) (unhide HS4))))
      have HBn := hide ((unhide HBr).trans hm5.1)
      have HSn : Hid (w4.heap.size < w5.heap.size) := hide (by rw [hm5.2.1]; exact unhide HSr)
      have HBlt : Hid (w.heap.size < w4.heap.size) := hide (Nat.lt_of_lt_of_le (Nat.lt_succ_self _) (Nat.le_trans (unhide HS3) (unhide HS4)))
      clear hr5 hm5 HRr HVr HBr HSr HWr
      by_cases hi0 : i = 0
      · subst hi0
        go_wp2_with fail
        refine (l22Val_any 1 w.heap.size a len' cap' (q + 1) w5 (unhide HRn) (by omega) (Nat.lt_trans (unhide HBlt) (unhide HSn))).mono ?_
        rintro e w6 ⟨x, xv, q', rfl, hox, hgd, hr6, hq6, hm6⟩
        obtain ⟨xa, xc, rfl⟩ := hox.form
        have hV6 := (unhide HVn).moved hm6 (unhide HBlt)
        have hE6 := hox.elt (lo := w4.heap.size) (g := (Value.slice va k vc).ownBlock) hgd (Nat.le_of_lt (unhide HSn)) (fun z hz => ((unhide HVn).row.lt z hz).2)
        have hs6 : w5.heap.size ≤ w6.heap.size := hm6.1.size
        obtain ⟨g7, c7, w7, r7, o7, y7⟩ := hV6.app (Nat.le_trans (Nat.le_of_lt (unhide HSn)) hs6) (by have := unhide HP; omega) (x, .slice xa x.row.length xc) hE6
        have HL7 : Hid (((ps ++ [(x, Value.slice xa x.row.length xc)]).map Prod.fst).length = k + 1) := hide (by rw [List.length_map, List.length_append, unhide HP]; rfl)
        rw [unhide HP] at r7 o7
        dsimp only at r7
        have HD7 := hide o7.dv
        have HB7 := hide (((unhide HBn).trans hm6.1).trans (((Below.refl w.heap.size w6).alloc (by have := unhide HSn; have := unhide HBlt; omega) _).grown y7 (by rw [alloc_size]; have := unhide HSn; have := unhide HBlt; omega) (fun z hz => by have := (hV6.row.lt z hz).1; have := unhide HBlt; omega)))
        obtain ⟨XL, hXL⟩ : ∃ t, x.row.length = t := ⟨_, rfl⟩
        rw [hXL] at r7 HD7 HL7 ⊢
        clear hV6 hE6 hox hgd hr6 hm6 o7 y7 hXL
        go_wp2_with (at_builtin; refine wpList_run rfl _ _ 23 rfl rfl (.slice va k vc) (.slice (some ⟨w6.heap.size, 0, none⟩) 1 1) rfl rfl (.slice (some ⟨g7, 0, none⟩) (k + 1) c7) w7 r7 ?_)
        go_ret2
        exact ⟨nm, some ⟨g7, 0, none⟩, c7, _, by rw [unhide HL7]; rfl, by rw [unhide HL7]; omega, unhide HD7, unhide HB7⟩
      by_cases hi1 : i = 1
      · subst hi1
        have hrow := (unhide HVn).row.2
        rcases hrow with ⟨hbad, hb0⟩ | ⟨g, cap9, cur, hv, hb9, hg, hnc, hcm, hsz, htake⟩
        · have := unhide HP; omega
        simp only [Value.slice.injEq] at hv
        obtain ⟨rfl, -, rfl⟩ := hv
        have hkc : k ≤ vc := by rw [unhide HP] at hnc; exact hnc
        unfold maxLen at hcm
        have hvc : vc ≤ 9223372036854775807 := by omega
        clear hb9 hg hnc hcm hsz htake
        have HPK := hide (pick_abs w.heap.size a len' cap' (q + 1) 3 w5.drew ((unhide HRn).kept (Below.refl _ _).drew) (by omega) (by omega))
        have hpi : (1 : Int) ≤ (k : Int) := by omega
        by_cases hv1 : vc = 1
        · have hk1 : k = 1 := by omega
          subst hv1
          subst hk1
          go_wp2
          go_region_law (first
            | (refine step_run rfl (.tmp 52) (.tmp 58) 23 rfl rfl (.slice (some ⟨g, 0, none⟩) 0 0) (.slice (some ⟨w7.heap.size, 0, none⟩) 1 1) rfl rfl (.slice a8 1 c8) w8 (by exact r8) ?_)
            | (go_simp; refine (unhide HPK).mono ?_; rintro r w6 ⟨i3, rfl, i30, i31, hr6, hm6⟩; have i32 := i31 (by omega); have HR6 := hide hr6; have HV6 := hide (OwnV.moved (show OwnV w5.drew w4.heap.size (.slice (some ⟨g, 0, none⟩) 1 1) ps from (unhide HVn).kept (fun _ _ _ => rfl) (Nat.le_refl _)) hm6.g (unhide HBlt)); have HB6 := hide ((unhide HBn).drew.trans hm6.1); have HS6 : Hid (w4.heap.size < w6.heap.size) := hide (by rw [hm6.2.1]; exact unhide HSn); clear hr6 hm6 i31)
            | (go_simp; refine (l22Val_any _ w.heap.size a len' cap' (q + 1 + 1) w6 (unhide HR6) (by omega) (Nat.lt_trans (unhide HBlt) (unhide HS6))).mono ?_; rintro r w7 ⟨x, xv, q', rfl, hox, hgd, hr7, hq7, hm7⟩; obtain ⟨xa, xc, rfl⟩ := hox.form; have hV7 := (unhide HV6).moved hm7 (unhide HBlt); have hE7 := hox.elt (lo := w4.heap.size) (g := some g) hgd (Nat.le_of_lt (unhide HS6)) (fun z hz => by cases hz; exact ((unhide HV6).row.lt g rfl).2); obtain ⟨a8, c8, w8, r8, d8, b8⟩ := hV7.cut (Nat.le_refl _) (by omega) 0 (.inr rfl) (x, .slice xa x.row.length xc) hE7; have HL8 : Hid (((ps.drop 1 ++ [(x, Value.slice xa x.row.length xc)]).map Prod.fst).length = 1) := hide (by rw [List.length_map, List.length_append, List.length_drop, unhide HP]; rfl); dsimp only at r8; have HD8 := hide d8; have HB8 := hide (((unhide HB6).trans hm7.1).trans (b8.mono (Nat.le_of_lt (unhide HBlt)))); obtain ⟨XL, hXL⟩ : ∃ t, x.row.length = t := ⟨_, rfl⟩; rw [hXL] at r8 HD8 HL8 ⊢; clear hV7 hE7 hox hgd hr7 hm7 d8 b8 hXL))
          all_goals
            go_wp2
            go_ret2
            exact ⟨nm, a8, c8, _, by rw [unhide HL8]; rfl, by rw [unhide HL8]; omega, unhide HD8, unhide HB8⟩
        · have hv2 : ¬ vc = 1 := hv1
          go_wp2
          go_region_law (first
            | (refine step_run rfl (.tmp 52) (.tmp 58) 23 rfl rfl (.slice (some ⟨g, 3, none⟩) (k - 1) (vc - 1)) (.slice (some ⟨w7.heap.size, 0, none⟩) 1 1) rfl rfl (.slice a8 k c8) w8 (by exact r8) ?_)
            | (go_simp; refine (unhide HPK).mono ?_; rintro r w6 ⟨i3, rfl, i30, i31, hr6, hm6⟩; have i32 := i31 (by omega); have HR6 := hide hr6; have HV6 := hide (OwnV.moved (show OwnV w5.drew w4.heap.size (.slice (some ⟨g, 0, none⟩) k vc) ps from (unhide HVn).kept (fun _ _ _ => rfl) (Nat.le_refl _)) hm6.g (unhide HBlt)); have HB6 := hide ((unhide HBn).drew.trans hm6.1); have HS6 : Hid (w4.heap.size < w6.heap.size) := hide (by rw [hm6.2.1]; exact unhide HSn); clear hr6 hm6 i31)
            | (go_simp; refine (l22Val_any _ w.heap.size a len' cap' (q + 1 + 1) w6 (unhide HR6) (by omega) (Nat.lt_trans (unhide HBlt) (unhide HS6))).mono ?_; rintro r w7 ⟨x, xv, q', rfl, hox, hgd, hr7, hq7, hm7⟩; obtain ⟨xa, xc, rfl⟩ := hox.form; have hV7 := (unhide HV6).moved hm7 (unhide HBlt); have hE7 := hox.elt (lo := w4.heap.size) (g := some g) hgd (Nat.le_of_lt (unhide HS6)) (fun z hz => by cases hz; exact ((unhide HV6).row.lt g rfl).2); obtain ⟨a8, c8, w8, r8, d8, b8⟩ := hV7.cut hpos (by omega) 3 (.inl rfl) (x, .slice xa x.row.length xc) hE7; have HL8 : Hid (((ps.drop 1 ++ [(x, Value.slice xa x.row.length xc)]).map Prod.fst).length = k) := hide (by rw [List.length_map, List.length_append, List.length_drop, unhide HP]; show k - 1 + 1 = k; omega); dsimp only at r8; have HD8 := hide d8; have HB8 := hide (((unhide HB6).trans hm7.1).trans (b8.mono (Nat.le_of_lt (unhide HBlt)))); obtain ⟨XL, hXL⟩ : ∃ t, x.row.length = t := ⟨_, rfl⟩; rw [hXL] at r8 HD8 HL8 ⊢; clear hV7 hE7 hox hgd hr7 hm7 d8 b8 hXL))
          all_goals
            go_wp2
            go_ret2
            exact ⟨nm, a8, c8, _, by rw [unhide HL8]; rfl, by rw [unhide HL8]; omega, unhide HD8, unhide HB8⟩
      by_cases hi2 : i = 2
      · subst hi2
        have HD := hide ((unhide HVn).kept (w' := w5.alloc (.cells #[.string ⟨#[]⟩, .string ⟨#[102]⟩, .string ⟨#[105, 102]⟩] 9)) (fun b _ hb => (below_new w5 _).block b hb) (by simp))
        have HOF := hide (of_abs w.heap.size w5.heap.size 3 3 (fun j => if j = 0 then ⟨#[]⟩ else if j = 1 then ⟨#[102]⟩ else ⟨#[105, 102]⟩) a len' cap' (q + 1) (w5.alloc (.cells #[.string ⟨#[]⟩, .string ⟨#[102]⟩, .string ⟨#[105, 102]⟩] 9)) ((unhide HRn).kept ((below_new w5 _).mono (by have := unhide HSn; have := unhide HBlt; omega))) (by omega) (by have := unhide HSn; have := unhide HBlt; omega) (by omega) (by omega) (fun j hj => by
          rw [alloc_cell]
          have : j = 0 ∨ j = 1 ∨ j = 2 := by omega
          rcases this with rfl | rfl | rfl <;> rfl))
        have HLp : Hid ((ps.map Prod.fst).length = k) := hide (by rw [List.length_map]; exact unhide HP)
        go_wp2_with fail
        refine (unhide HOF).mono ?_
        rintro e w6 ⟨j, hj, rfl, hr6, hm6⟩
        have HD6 := hide ((unhide HD).moved hm6.g (unhide HBlt)).dv
        have HB6 := hide (((unhide HBn).alloc (unhide HBn).size _).trans hm6.1)
        obtain ⟨sx, hsx⟩ : ∃ sx : ByteArray, (if j = 0 then (⟨#[]⟩ : ByteArray) else if j = 1 then ⟨#[102]⟩ else ⟨#[105, 102]⟩) = sx := ⟨_, rfl⟩
        rw [hsx]
        clear hr6 hm6 hsx
        go_wp2
        go_ret2
        exact ⟨sx, va, vc, ps.map Prod.fst, by rw [unhide HLp]; rfl, by rw [unhide HLp]; omega, unhide HD6, unhide HB6⟩
      have z0 : (i == 0) = false := by simpa using hi0
      have z1 : (i == 1) = false := by simpa using hi1
      have z2 : (i == 2) = false := by simpa using hi2
      have HD := hide (unhide HVn).dv
      have HLp : Hid ((ps.map Prod.fst).length = k) := hide (by rw [List.length_map]; exact unhide HP)
      go_wp2
      go_ret2
      exact ⟨nm, va, vc, ps.map Prod.fst, by rw [unhide HLp]; rfl, by rw [unhide HLp]; omega, unhide HD, unhide HBn⟩
end Go.Proofs.Ytjnahhalgckggaa
