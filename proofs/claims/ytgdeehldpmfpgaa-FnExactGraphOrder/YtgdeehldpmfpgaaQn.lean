/- The walk of spec.GraphRound. Conditions: the nodes can be read. -/
import Derived.Test.YtgdeehldpmfpgaaQm
import Derived.Deep.RegionHeld3
namespace Go.Proofs.Ytgdeehldpmfpgaa
open Go.RowKit Go.PlainAid

set_option maxRecDepth 100000 in
set_option maxHeartbeats 4000000 in
theorem GraphRoundS_any (lo : Nat) (a : Option Addr) (cap : Nat) (l : List TG) (w : World) (hk : IsGns (IsGn w lo w.heap.size) w lo w.heap.size a l) (hl : l.length ≤ maxLen) :
    Calls Try.prog 14 #[.slice a l.length cap] w fun r w' => ∃ (a' : Option Addr) (cap' : Nat), r = .returned (.slice a' (roundR l).length cap') ∧ IsWds w' w.heap.size w'.heap.size a' (roundR l) ∧ Below w.heap.size w w' := by
  have HK := hide hk
  have HOK := hide (fun (W' : World) (hb : Below w.heap.size w W') => GraphOkS_any lo a cap l W' (hk.kept hb hb.size) hl)
  have HEM : Hid (graphB l = false → roundR l = []) := hide (fun h => by unfold roundR; rw [h]; rfl)
  have HFU : Hid (graphB l = true → roundR l = (l.filter (fun n => reachB l [n.name] n.name)).map TG.name) := hide (fun h => by unfold roundR; rw [h]; rfl)
  have H8 : Hid (graphB l = true → l.length ≤ 8) := hide (fun h => by
    by_cases g : GoodG l
    · exact g.1
    · rw [graphB_no g] at h; cases h)
  obtain ⟨R, hR⟩ : ∃ R, roundR l = R := ⟨_, rfl⟩
  rw [hR] at HEM HFU ⊢
  obtain ⟨B, hB⟩ : ∃ B, graphB l = B := ⟨_, rfl⟩
  rw [hB] at HOK HEM HFU H8
  obtain ⟨W, hW⟩ : ∃ W, W = w.alloc (.cells #[] 9) := ⟨_, rfl⟩
  have HBW : Hid (Below w.heap.size w W) := hide (by rw [hW]; exact (Below.refl _ _).alloc (Nat.le_refl _) _)
  clear hk hR hB hl
  go_enter Try.func14, Try.ntmps14
  go_wp2_with fail
  rw [← hW]
  clear hW
  refine (unhide HOK _ (unhide HBW)).mono ?_
  rintro r w2 ⟨rfl, hb2⟩
  have HB2 := hide ((unhide HBW).trans (hb2.mono (unhide HBW).size))
  clear hb2 HOK HBW
  cases B with
  | false =>
    have HX := hide (unhide HEM rfl)
    go_wp2
    go_ret
    obtain rfl := unhide HX
    exact ⟨_, _, rfl, .inl rfl, unhide HB2⟩
  | true =>
    have HX := hide (unhide HFU rfl)
    have hl8 := unhide H8 rfl
    clear HFU HEM H8
    go_wp2
    go_loopw [3, 4] (fun v5 v7 wq => ∃ (k : Nat) (out : List ByteArray) (so : Option Addr) (cp : Nat), k ≤ l.length ∧ v7 = .int .i64 k ∧ v5 = .slice so out.length cp ∧ Hid (out = pickG (fun n => reachB l [n.name] n.name) l k) ∧ Hid (RowG wq w.heap.size w.heap.size (.slice so out.length cp) out) ∧ Hid (Below w.heap.size w wq)) (fun _ v7 _ => l.length - (intOf v7).toNat)
    case atStart => exact ⟨0, [], some ⟨w.heap.size, 0, none⟩, 0, Nat.zero_le _, rfl, rfl, hide (pickG_zero _ _).symm, hide (.inl ⟨rfl, rfl⟩), HB2⟩
    case round =>
      obtain ⟨k, out, so, cp, hk, rfl, rfl, HOUT, HROW, HB⟩ := hrel
      by_cases hp : k < l.length
      · have hkk := (unhide HK).kept (unhide HB) (unhide HB).size
        rcases hkk with hq | ⟨b, off, rfl, hbl, hbn, hcs⟩
        · rw [hq] at hp; simp at hp
        obtain ⟨c0, c1, d0, d1, hr⟩ := hcs k hp
        have HY := hide (fun he => (pickG_yes (p := fun n => reachB l [n.name] n.name) hp he))
        have HNO := hide (fun he => (pickG_no (p := fun n => reachB l [n.name] n.name) hp he))
        obtain ⟨x, hx⟩ : ∃ x, l[k]'hp = x := ⟨_, rfl⟩
        rw [hx] at hr HY HNO
        have hol2 : out.length ≤ 8 := by rw [unhide HOUT]; exact Nat.le_trans (pickG_len _ _ _) hl8
        obtain ⟨aa, ca, hv, hzz, _⟩ := hr
        simp only [Value.agg.injEq, Array.mk.injEq, List.cons.injEq, and_true] at hv
        obtain ⟨rfl, rfl⟩ := hv
        obtain ⟨u1, hu1⟩ : ∃ u1, reachB l [x.name] x.name = u1 := ⟨_, rfl⟩
        have HH : Hid (∀ (gr : List ByteArray) (ga : Option Addr) (gc lo' : Nat) (W4 : World), IsWds W4 lo' W4.heap.size ga gr → GrowP l [x.name] gr → gr.length ≤ 8 → Calls Try.prog 41 #[.slice ga gr.length gc, .string x.name] W4 (fun r w' => r = .returned (.bool u1) ∧ W4 = w')) := hide (fun gr ga gc lo' W4 hI hP h8 => by
          have h := l5Has_any lo' ga gc gr x.name W4 hI (by unfold maxLen; omega)
          rw [hP.reach, hu1] at h
          exact h)
        have HG : Hid (∀ (W' : World), Below wr.heap.size wr W' → Blk W' wr.heap.size [.string x.name] → wr.heap.size < W'.heap.size → Calls Try.prog 43 #[.slice (some ⟨b, off, none⟩) l.length cap, .slice (some ⟨wr.heap.size, 0, none⟩) 1 1] W' (fun r w' => ∃ (gr : List ByteArray) (ga : Option Addr) (gc : Nat), r = .returned (.slice ga gr.length gc) ∧ IsWds w' W'.heap.size w'.heap.size ga gr ∧ GrowP l [x.name] gr ∧ gr.length ≤ 8 ∧ Below W'.heap.size W' w')) := hide (fun W' hb hnb hs =>
          l5Grow_any lo wr.heap.size (some ⟨b, off, none⟩) cap l (some ⟨wr.heap.size, 0, none⟩) 1 [x.name] W' (((unhide HK).kept (unhide HB) (unhide HB).size).kept hb hb.size) hl8 (.inr ⟨wr.heap.size, 0, rfl, Nat.le_refl _, hs, fun j hj => by
            rw [Nat.zero_add]
            refine hnb.cellAt ?_
            match j, hj with
            | 0, _ => rfl⟩) (by simp [maxLen]))
        rw [hu1] at HY HNO
        rw [← unhide HOUT] at HY HNO
        have HSK := hide (fun (w' : World) (hb : Below wr.heap.size wr w') => (⟨(hb.cell (p := ⟨b, off + k * 2, none⟩) hbn).trans d0, (hb.cell (p := ⟨b, off + k * 2 + 1, none⟩) hbn).trans d1⟩ : w'.cell? ⟨b, off + k * 2, none⟩ = some _ ∧ w'.cell? ⟨b, off + k * 2 + 1, none⟩ = some _))
        clear hcs hx hzz hu1 HOUT
        go_wp2
        go_region_held3 (fun w' => w'.cell? ⟨b, off + k * 2, none⟩ = some (.string x.name) ∧ w'.cell? ⟨b, off + k * 2 + 1, none⟩ = some (.slice aa x.uses.length ca))
          (exact unhide HSK _ (by first | with_reducible exact kW | with_reducible exact kW.drew | exact Below.refl _ _ | exact (Below.refl _ _).drew | exact (Below.refl _ wr).drew.alloc (Nat.le_refl _) _ | exact ((Below.refl _ wr).alloc (Nat.le_refl _) _).drew | exact (Below.refl _ wr).alloc (Nat.le_refl _) _))
          (first | (go_at_call 43; refine (unhide HG _ (by first | exact (Below.refl _ wr).drew.alloc (Nat.le_refl _) _ | exact ((Below.refl _ wr).alloc (Nat.le_refl _) _).drew | exact (Below.refl _ wr).alloc (Nat.le_refl _) _) (by first | exact Blk.new wr.drew [.string x.name] 9 | exact Blk.new wr [.string x.name] 9) (by simp)).mono ?_; rintro r w4 ⟨gr, ga, gc, rfl, hgi, hgp, hg8, hb4⟩; have kW : Below wr.heap.size wr w4 := ((Below.refl _ wr).drew.alloc (Nat.le_refl _) _).trans (hb4.mono (by simp))) | (go_at_call 41; refine (unhide HH gr ga gc _ _ (by first | exact hgi | exact hgi.kept (Below.refl _ _).drew (Nat.le_refl _)) hgp hg8).mono ?_; rintro r w5 ⟨rfl, rfl⟩))
        all_goals
          have HB4 := hide ((unhide HB).trans (kW.mono (unhide HB).size))
          have HROW4 := hide ((unhide HROW).kept kW)
          obtain ⟨e0, e1⟩ := unhide HSK _ kW
          clear HSK HG HH hb4 kW hgi hgp hg8
          cases u1 with
          | false =>
            have HE := hide (unhide HNO rfl)
            clear HY HNO
            go_wp2
            go_roundw
            case rel => exact ⟨k + 1, out, so, cp, by omega, by go_num, rfl, hide (unhide HE).symm, HROW4, HB4⟩
            case measure => simp [intOf]; omega
          | true =>
            have HE := hide (unhide HY rfl)
            clear HY HNO
            go_wp2_with (at_builtin; refine wpList_app_str _ rfl _ _ rfl rfl w.heap.size w.heap.size _ out x.name w4.heap.size 1 rfl rfl ((unhide HROW4).kept ((Below.refl _ _).alloc (Nat.le_refl _) _)) (by rw [alloc_cell]; rfl) hol2 (by have := (unhide HB4).size; simp; omega) ?_; intro v7 w7 hrow7 hbel7; have HB7 := hide ((unhide HB4).trans (((Below.refl _ w4).alloc (unhide HB4).size (.cells #[.string x.name] 9)).trans hbel7)); have HW7 := (hrow7.wds (Nat.le_refl _)); have HO7 := hide hrow7; clear hrow7 hbel7; obtain ⟨so7, cp7, rfl, hI7⟩ := HW7; clear hI7)
            go_roundw
            case rel => exact ⟨k + 1, out ++ [x.name], so7, cp7, by omega, by go_num, by rw [List.length_append]; rfl, hide (unhide HE).symm, HO7, HB7⟩
            case measure => simp [intOf]; omega
      · have HALL : Hid (R = out) := hide (by rw [unhide HX, unhide HOUT]; exact (pickG_all _ _ (by omega)).symm)
        have HWD := hide ((unhide HROW).wds (Nat.le_refl _))
        go_wp2
        go_ret
        obtain ⟨a', c', e, hI⟩ := unhide HWD
        cases e
        obtain rfl := unhide HALL
        first | exact ⟨so, ⟨cp, rfl⟩, hI, unhide HB⟩ | exact ⟨_, _, rfl, hI, unhide HB⟩
end Go.Proofs.Ytgdeehldpmfpgaa
