/- The walk of treeLot.span. Conditions: no two lists of the tree lie in one block. -/
import Derived.Test.YtambkcchnmbaoaaSe
namespace Go.Proofs.Ytambkcchnmbaoaa
open Go.RowKit Go.PlainAid
open Go.ChangeMaps (setBlock)

theorem IsS.open {w : World} {h lo n : Nat} {v : Value} {k m : Int} {nm md : ByteArray} {kids : List TE} (hE : IsS w h lo n v (.node k m nm md kids)) : ∃ (a : Option Addr) (cap : Nat), v = .agg #[.int .i64 k, .int .i64 m, .string nm, .string md, .slice a kids.length cap] ∧ kids.length ≤ maxLen ∧ IsSK (IsS w (h - 1)) w lo n a kids := by
  cases h with
  | zero => exact hE.elim
  | succ h =>
    obtain ⟨a, cap, hv, ⟨_, _, hz⟩, hk⟩ := hE
    exact ⟨a, cap, hv, hz, hk⟩
set_option maxRecDepth 100000 in
set_option maxHeartbeats 4000000 in
theorem span_any (h lo n : Nat) (v : Value) (e : TE) (w : World) (hE : IsS w h lo n v e) (hn : n ≤ w.heap.size) (hN : e.nodes ≤ 1048577) :
    Calls Try.prog 87 #[v] w fun r w' => r = .returned (.tuple #[.int .i64 e.nodes, .int .i64 e.deep]) ∧ Below w.heap.size w w' := by
  cases h with
  | zero => exact hE.elim
  | succ h =>
  have hdN := deep_le e
  obtain ⟨T, hT⟩ : ∃ T, e.nodes = T := ⟨_, rfl⟩
  obtain ⟨Dp, hDp⟩ : ∃ D, e.deep = D := ⟨_, rfl⟩
  rw [hT, hDp] at hdN ⊢
  rw [hT] at hN
  obtain ⟨kd, m, nm, md, kids⟩ := e
  rw [TE.nodes] at hT
  rw [TE.deep] at hDp
  obtain ⟨a, cap, rfl, ⟨_, _, hs3⟩, hk⟩ := hE
  have hmm := @run_makeMap Try.prog
  have HROOT : Hid (∀ W : World, LevelAt W (w.heap.size + 1 + 1) [] → MetAt W (w.heap.size + 1) [] → Below w.heap.size w W → w.heap.size + 3 ≤ W.heap.size → Calls Try.prog 88 #[.map (some (w.heap.size + 1 + 1)), .slice a kids.length cap, .int .i64 1] W fun e w' => e = .returned (.tuple #[]) ∧ ∃ bs, Lev w w' n (w.heap.size + 1) (w.heap.size + 1 + 1) h bs [] T Dp 1 1) := hide (fun W hL hM hB hS => by
    have hk' : IsSK (IsS W h) W lo n a kids := hk.mono (fun x y v e hx hy he => IsS.same h x y x y v e (fun b h1 h2 => hB.block b (by omega)) (Nat.le_refl _) (Nat.le_refl _) he) (fun b h1 h2 => hB.block b (by omega)) (Nat.le_refl _) (Nat.le_refl _)
    refine (add_any hL hk' hs3 (fun t ht => by simp at ht)).mono ?_
    rintro e w' ⟨rfl, ex, h1, h2, h3⟩
    have hB' : Below w.heap.size w w' := hB.grown h2 (by omega) (fun k e => by simp at e; omega)
    have hsum : sumN ex = nodesL kids ∧ maxD ex = deepL kids := by
      rcases h3 with h3 | ⟨b, h3, _⟩
      · exact ex_sums (b := 0) (cap := 0) (lo := 0) (hi := 0) (.inl h3)
      · exact ex_sums (.inr h3)
    refine ⟨rfl, ex, hB', h1, hM.kept (h2.block _ (by omega) (by simp)), ?_, fun p hp => by simp at hp, by rw [hsum.1]; omega, by rw [hsum.2]; omega, by simp, by omega, by omega, by omega⟩
    rcases h3 with ⟨rfl, _⟩ | ⟨b, rfl, hg⟩
    · exact ⟨fun t ht => by simp at ht, List.Pairwise.nil⟩
    · refine ⟨fun t ht => ?_, List.pairwise_singleton _ _⟩
      rw [List.mem_singleton] at ht
      subst ht
      exact ⟨hg.same (fun b h1 h2' => h2.block b (by dsimp only at h2'; omega) (by dsimp only at h2'; simp; omega)), Nat.le_refl _⟩)
  have HNN := hide hn
  clear hk hT hDp hn hs3
  go_enter Try.func87, Try.ntmps87
  go_wp2_with fail
  have hL : LevelAt (((w.alloc (.cells #[.int .i64 kd, .int .i64 m, .string nm, .string md, .slice a kids.length cap] 77)).alloc (.map #[] 0)).alloc (.map #[] 0)) (w.heap.size + 1 + 1) [] := by
    have := level_new ((w.alloc (.cells #[.int .i64 kd, .int .i64 m, .string nm, .string md, .slice a kids.length cap] 77)).alloc (.map #[] 0))
    rw [alloc_size, alloc_size] at this
    exact this
  have hM : MetAt (((w.alloc (.cells #[.int .i64 kd, .int .i64 m, .string nm, .string md, .slice a kids.length cap] 77)).alloc (.map #[] 0)).alloc (.map #[] 0)) (w.heap.size + 1) [] := by
    have := (met_new (w.alloc (.cells #[.int .i64 kd, .int .i64 m, .string nm, .string md, .slice a kids.length cap] 77)))
    rw [alloc_size] at this
    exact this.kept (((Below.refl _ _).alloc (Nat.le_refl _) _).block _ (by simp))
  refine (unhide HROOT _ hL hM (((((Below.refl _ w).alloc (Nat.le_refl _) _).alloc (by simp) _).alloc (by simp; omega) _)) (by simp)).mono ?_
  rintro r w1 ⟨rfl, bs0, hlev0⟩
  have HL0 := hide hlev0
  clear hL hM hlev0 HROOT
  go_wp2
  go_loopw [4, 5, 7] (fun nn dd lv wr => ∃ (N D r h' : Nat) (bs : List Bd) (ms : List Nat), nn = .int .i64 N ∧ dd = .int .i64 D ∧ lv = .map (some r) ∧ Hid (Lev w wr n (w.heap.size + 1) r h' bs ms T Dp N D)) (fun _ dd _ _ => Dp + 1 - (intOf dd).toNat)
  case atStart => exact ⟨1, 1, w.heap.size + 1 + 1, h, bs0, [], rfl, rfl, rfl, HL0⟩
  case round =>
    clear HL0
    obtain ⟨N, D, r, h', bs, ms, rfl, rfl, rfl, HL⟩ := hrel
    have hlenL := level_len (unhide HL).level
    by_cases hb0 : bs = []
    · subst hb0
      have HR : Hid (N = T ∧ D = Dp) := hide ⟨(unhide HL).nodes, (unhide HL).deep⟩
      go_wp2
      go_ret2
      obtain ⟨rfl, rfl⟩ := unhide HR
      exact ⟨rfl, (unhide HL).below⟩
    have hpos : 1 ≤ bs.length := by
      cases bs with
      | nil => exact absurd rfl hb0
      | cons _ _ => simp
    have hND : N ≤ 1048577 ∧ D ≤ 1048577 := by have h1 := (unhide HL).nodes; have h2 := (unhide HL).deep; omega
    have HL2 : Hid (LevelAt (wr.alloc (.map #[] 0)) r bs) := hide ((unhide HL).level.kept (((Below.refl _ _).alloc (Nat.le_refl _) _).block r (unhide HL).level.lt))
    obtain ⟨o, hrg, hit⟩ := level_range (unhide HL2)
    have hm0 := mid_start (unhide HL) (unhide HNN) (by rw [alloc_size] at hit; exact hit)
    obtain ⟨rb, hrb⟩ : ∃ rb, wr.heap.size = rb := ⟨_, rfl⟩
    rw [alloc_size, hrb] at hrg
    rw [hrb] at hm0
    have HM0 := hide hm0
    clear hm0 hit hb0 HL2
    go_wp2
    go_loopw [4] (fun nn w2 => ∃ (c : Nat) (seen : Array Nat) (bs' : List Bd), nn = .int .i64 c ∧ Hid (Mid w w2 n (w.heap.size + 1) r rb (rb + 1) h' bs ms seen bs' N c)) (fun _ w2 => restS (fun _ => 1) bs.length (seenOf w2 (rb + 1)))
    case atStart => exact ⟨N, #[], [], rfl, HM0⟩
    case round =>
      clear HM0 hrg hlenL hrb
      obtain ⟨c, seen, bs', rfl, HM⟩ := hrel
      rcases iter_next (unhide HM).iter with ⟨hnx, hall⟩ | ⟨i, hi, W, hns, hnx, hen, hit, hgr⟩
      · obtain ⟨g1, g2, g3⟩ : N + sumN bs = T ∧ D + maxD bs = Dp ∧ D ≤ ms.length + 1 := ⟨(unhide HL).nodes, (unhide HL).deep, (unhide HL).steps⟩
        have hml := mid_steps (unhide HM) hall
        have HE := hide (mid_end (unhide HM) hall g1 g2 g3 hpos)
        have hmet := met_len (unhide HM).met
        obtain ⟨ml, hmle⟩ : ∃ ml, (ms ++ (vsOf bs seen).map Bd.b).length = ml := ⟨_, rfl⟩
        rw [hmle] at hmet hml
        have hDm : D ≤ ml := by omega
        have hDd : D < Dp := by
          have h1 : 1 ≤ maxD bs := by
            have hm : bs[0] ∈ bs := List.getElem_mem hpos
            exact Nat.le_trans (deepL_pos _ ((unhide HM).forest.1 _ hm).1.1) (maxD_mem hm)
          omega
        clear hall hmle g1 g2 g3 hml
        go_wp2
        go_roundw
        case rel => exact ⟨c, D + 1, rb, h' - 1, bs', _, rfl, by go_num, rfl, HE⟩
        case measure => simp [intOf]; omega
      · obtain ⟨t, ht⟩ : ∃ t, bs[i]'hi = t := ⟨_, rfl⟩
        rw [ht] at hnx hen
        obtain ⟨W3, cut, hput, hkid, hg3⟩ := mid_kid (unhide HM) hi ht hns hit hgr (unhide HNN) (.cells #[.pointer (some ⟨t.b, 0, none⟩), .int .i64 (t.kids.length : Int)] 106) (.cells #[.slice (some ⟨t.b, 0, none⟩) t.kids.length t.cap, .int .i64 1] 139)
        have hqW : w.heap.size + 1 < W.heap.size := by have := (unhide HM).met.lt; have := hgr.size; omega
        have hcell : ∀ x, (#[Value.slice (some ⟨t.b, 0, none⟩) t.kids.length t.cap, .int .i64 1] : Array Value)[x]?.isSome = true → W3.cell? ⟨W.heap.size + 1, x, none⟩ = (#[Value.slice (some ⟨t.b, 0, none⟩) t.kids.length t.cap, .int .i64 1] : Array Value)[x]? := fun x hx => by
          have h1 := alloc_cell (W.alloc (.cells #[.pointer (some ⟨t.b, 0, none⟩), .int .i64 (t.kids.length : Int)] 106)) #[.slice (some ⟨t.b, 0, none⟩) t.kids.length t.cap, .int .i64 1] 139 x
          rw [alloc_size] at h1
          obtain ⟨u, hu⟩ := Option.isSome_iff_exists.1 hx
          rw [hu] at h1 ⊢
          exact hg3.cell h1 (by simp; omega)
        have p0 : W3.cell? ⟨W.heap.size + 1, 0, none⟩ = some (.slice (some ⟨t.b, 0, none⟩) t.kids.length t.cap) := hcell 0 rfl
        have p1 : W3.cell? ⟨W.heap.size + 1, 1, none⟩ = some (.int .i64 1) := hcell 1 rfl
        have hsz3 : W.heap.size + 1 < W3.heap.size := by have := hg3.size; simp at this; omega
        have hgood := (unhide HM).forest.1 t (ht ▸ List.getElem_mem hi)
        have hkl : t.kids.length ≤ maxLen := hgood.1.2.1
        have hthi := hgood.2
        unfold maxLen at hkl
        have HAPT := hide (vs_apart (unhide HM).bound (unhide HM).forest.2 hi ht hns)
        have HROOM := hide (fun (w3 : World) (j c3 : Nat) (bs3 : List Bd) (K : Kid w w3 n (w.heap.size + 1) r rb (rb + 1) h' bs ms seen t cut j bs3 N c3 i) => kid_room (unhide HM) hi ht hns K (unhide HL).nodes)
        have HBACK := hide (fun (w3 : World) (c3 : Nat) (bs3 : List Bd) (K : Kid w w3 n (w.heap.size + 1) r rb (rb + 1) h' bs ms seen t cut t.kids.length bs3 N c3 i) => kid_mid (unhide HM) hi ht hns K)
        have HMEAS : Hid (restS (fun _ => 1) bs.length (seen.push i) < restS (fun _ => 1) bs.length (seenOf wr (rb + 1))) := hide (by
          rw [(unhide HM).iter.seen]
          have := rest_push (fun _ => 1) bs.length seen i hi hns
          omega)
        have hdist : Hid ((w.heap.size + 1 ≠ rb ∧ r ≠ rb ∧ rb ≠ rb + 1) ∧ w.heap.size ≤ rb) := hide ⟨⟨(unhide HM).dist.2.1, (unhide HM).dist.2.2.2.1, (unhide HM).dist.2.2.2.2⟩, (unhide HM).b0⟩
        have hmem : Hid (t ∈ bs) := hide (ht ▸ List.getElem_mem hi)
        have HKID := hide hkid
        have hAr : Hid (rb < W.heap.size + 1) := hide (by have := (unhide HM).next.lt; have := hgr.size; omega)
        clear hkid hg3 hcell hit hgr hgood ht hqW
        go_wp2
        clear p0 hput hnx hen
        go_loopw [4, 37] (fun nn jj w3 => ∃ (j c3 : Nat) (bs3 : List Bd), j ≤ t.kids.length ∧ jj = .int .i64 j ∧ nn = .int .i64 c3 ∧ c3 ≤ 1048577 ∧ Hid (Kid w w3 n (w.heap.size + 1) r rb (rb + 1) h' bs ms seen t cut j bs3 N c3 i) ∧ w3.cell? ⟨W.heap.size + 1, 1, none⟩ = some (.int .i64 1) ∧ W.heap.size + 1 < w3.heap.size) (fun _ jj _ => t.kids.length - (intOf jj).toNat)
        case atStart => exact ⟨0, c, bs', Nat.zero_le _, rfl, rfl, by have := unhide HROOM _ _ _ _ (unhide HKID); omega, HKID, p1, hsz3⟩
        case round =>
          clear HKID p1 hsz3
          obtain ⟨j, c3, bs3, hj, rfl, rfl, hc3, HKD, hst, hA3⟩ := hrel
          by_cases hp : j < t.kids.length
          · obtain ⟨c0, c1, c2, c3', c4, d0, d1, d2, d3, d4, hr⟩ := (unhide HKD).cuts.at_ j hp
            obtain ⟨kd', hkd'⟩ : ∃ kd', t.kids[j] = kd' := ⟨_, rfl⟩
            rw [hkd'] at hr
            obtain ⟨ka, kb, kn, km, kk⟩ := kd'
            obtain ⟨sa, scap, hv, hkk, hsk⟩ := hr.open
            simp only [Value.agg.injEq, Array.mk.injEq, List.cons.injEq, and_true] at hv
            obtain ⟨rfl, rfl, rfl, rfl, rfl⟩ := hv
            have hbz : t.b < wr.heap.size := block_lt_of_cell d0
            have HADD : Hid (∀ W, Below wr.heap.size wr W → Calls Try.prog 88 #[.map (some rb), .slice sa kk.length scap, .int .i64 1] W fun e w' => e = .returned (.tuple #[]) ∧ ∃ ex : List Bd, LevelAt w' rb (bs3 ++ ex) ∧ W.grownBy w' (some rb) ∧ ((ex = [] ∧ kk = []) ∨ ∃ b, ex = [⟨b, scap, cut j, cut (j + 1), kk⟩] ∧ Good W (h' - 1) ⟨b, scap, cut j, cut (j + 1), kk⟩)) := hide (fun W hb => by
              have K := unhide HKD
              have hs0 := K.below.size
              have hm := cut_mono K.cuts.mono
              have hcl := hm (j + 1) t.kids.length (by omega) (Nat.le_refl _)
              have hch := K.cuts.hi
              refine add_any (K.next.kept (hb.block rb K.next.lt)) (hsk.mono (fun x y v e hx hy he => IsS.same (h' - 1) x y x y v e (fun b h1 h2 => hb.block b (by have := unhide HNN; omega)) (Nat.le_refl _) (Nat.le_refl _) he) (fun b h1 h2 => hb.block b (by have := unhide HNN; omega)) (Nat.le_refl _) (Nat.le_refl _)) hkk (fun t' ht' => ?_)
              obtain ⟨g, ghi⟩ := K.forest'.1 t' ht'
              obtain ⟨s1, s2, s3⟩ := g.spot
              refine ⟨plain_mono s3 (hb.block _ (plain_lt s3)), ?_, s1, s2⟩
              have hc0 := hm 0 j (Nat.zero_le _) (by omega)
              have hcb := K.cuts.b0
              have hsp := ((K.forest.1 t (unhide hmem)).1).spot
              rcases K.inside t' ht' with ⟨u, hu, i1, i2, i3⟩ | ⟨i1, i2, i3⟩
              · rcases (unhide HAPT u hu).2 with h | h
                · left; omega
                · right; omega
              · left; exact i3)
            have HKK := hide hkd'
            clear hsk hkd' hr
            go_wp2_with fail
            refine (treeSum_any _ _ _ (by omega) (by omega) (by omega)).mono ?_
            rintro r' w5 ⟨rfl, rfl⟩
            go_wp2_with fail
            refine (unhide HADD _ ((Below.refl _ _).alloc (Nat.le_refl _) _)).mono ?_
            rintro r' w6 ⟨rfl, ex, hl6, hg6, hex⟩
            have hg7 := gr_trans (World.grownBy_alloc wr (.cells #[.int .i64 ka, .int .i64 kb, .string kn, .string km, .slice sa kk.length scap] 34) (some rb)) hg6
            have hK7 : Kid w w6 n (w.heap.size + 1) r rb (rb + 1) h' bs ms seen t cut (j + 1) (bs3 ++ ex) N (c3 + 1) i := by
              have K := unhide HKD
              have hs0 := K.below.size
              have hm := cut_mono K.cuts.mono
              have hcl := hm (j + 1) t.kids.length (by omega) (Nat.le_refl _)
              have hch := K.cuts.hi
              refine K.step (cap := scap) hg7 (unhide HNN) (unhide hdist).2 (unhide hdist).1 hthi (unhide hmem) (unhide HAPT) hp (unhide HKK) hl6 ?_
              rcases hex with h | ⟨b, h1, h2⟩
              · exact .inl h
              · refine .inr ⟨b, h1, h2.same (fun b' _ hb' => ((((Below.refl wr.heap.size wr).alloc (Nat.le_refl _) _).block b' ?_)).symm)⟩
                dsimp only at hb'
                have := unhide HNN
                omega
            have hst6 : w6.cell? ⟨W.heap.size + 1, 1, none⟩ = some (.int .i64 1) := hg7.cell hst (by have := unhide hAr; simp; omega)
            have hA6 : W.heap.size + 1 < w6.heap.size := by have := hg7.size; omega
            have hc6 : c3 + 1 ≤ 1048577 := by have := unhide HROOM _ _ _ _ hK7; omega
            have HK7 := hide hK7
            clear hK7 hg7 hg6 hl6 hex hst hA3 HKD HADD d0 d1 d2 d3 d4
            go_wp2
            go_roundw
            case rel => exact ⟨j + 1, c3 + 1, bs3 ++ ex, by omega, by go_num, by go_num, hc6, HK7, hst6, hA6⟩
            case measure => simp [intOf]; omega
          · have hje : j = t.kids.length := by omega
            subst hje
            have HM2 := hide (unhide HBACK _ _ _ (unhide HKD))
            have HMS : Hid (restS (fun _ => 1) bs.length (seenOf wr (rb + 1)) = restS (fun _ => 1) bs.length (seen.push i)) := hide (by rw [(unhide HKD).iter.seen])
            go_wp2
            go_roundw
            case rel => exact ⟨c3, rfl, seen.push i, bs3, HM2⟩
            case measure => rw [unhide HMS]; exact unhide HMEAS
end Go.Proofs.Ytambkcchnmbaoaa
