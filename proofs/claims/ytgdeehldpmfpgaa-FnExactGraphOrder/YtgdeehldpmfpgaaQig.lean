/- The walk of impl.GraphOrder. Conditions: the nodes can be read. -/
import Derived.Test.YtgdeehldpmfpgaaQif
import Derived.Test.YtgdeehldpmfpgaaQjb
import Derived.Deep.AppendLies
namespace Go.Proofs.Ytgdeehldpmfpgaa
open Go.RowKit Go.PlainAid

set_option maxRecDepth 100000 in
set_option maxHeartbeats 2000000 in
theorem GraphOrderI_any (lo : Nat) (a : Option Addr) (cap : Nat) (l : List TG) (w : World) (hk : IsGns (IsGn w lo w.heap.size) w lo w.heap.size a l) (hl : l.length ≤ maxLen) (hsz : ∀ n ∈ l, n.name.size ≤ 1048576) :
    Calls Try.prog 10 #[.slice a l.length cap] w fun r w' => ∃ v', r = .returned v' ∧ OwnW w' w.heap.size w'.heap.size v' (orderR l) ∧ Below w.heap.size w w' := by
  obtain ⟨i0, hi, hz0, hz1, hz2⟩ := info_parts wsinfo
  have HK := hide hk
  have HSZ := hide hsz
  have HLM := hide hl
  clear hsz
  have HOK := hide (fun (W' : World) (hb : Below w.heap.size w W') => GraphOkI_any lo a cap l W' (hk.kept hb hb.size) hl)
  have HST := hide (OG.start (l := l))
  have HEM : Hid (graphB l = false → orderR l = []) := hide (fun h => by unfold orderR; rw [h]; rfl)
  have HGG : Hid (graphB l = true → GoodG l) := hide (fun h => by
    by_cases g : GoodG l
    · exact g
    · rw [graphB_no g] at h; cases h)
  obtain ⟨R, hR⟩ : ∃ R, orderR l = R := ⟨_, rfl⟩
  rw [hR] at HST HEM ⊢
  obtain ⟨B, hB⟩ : ∃ B, graphB l = B := ⟨_, rfl⟩
  rw [hB] at HOK HST HEM HGG
  clear hk hR hB
  unfold maxLen at hl
  have hmm := @run_makeMap Try.prog
  go_enter Try.func10, Try.ntmps10
  go_wp2_with fail
  refine (unhide HOK _ (Below.refl _ _)).mono ?_
  rintro r w2 ⟨rfl, hb2⟩
  have HB2 := hide hb2
  clear hb2 HOK
  cases B with
  | false =>
    have HX := hide (unhide HEM rfl)
    go_wp2
    go_ret
    obtain rfl := unhide HX
    exact ⟨_, rfl, ⟨_, _, rfl, .inl rfl⟩, unhide HB2⟩
  | true =>
    have HOG := hide (unhide HST rfl)
    have HGD := hide (unhide HGG rfl)
    have hl8 := (unhide HGG rfl).1
    clear HST HEM HGG hl
    go_wp2
    have HL0 := hide (Line.start w2)
    obtain ⟨W, hW⟩ : ∃ W, W = (w2.alloc (.map #[] 0)).alloc (.cells #[.map (some w2.heap.size), .slice none 0 0] 52) := ⟨_, rfl⟩
    have HBW : Hid (Below w2.heap.size w2 W) := hide (by rw [hW]; exact ((Below.refl _ _).alloc (Nat.le_refl _) _).alloc (by simp) _)
    rw [← hW] at HL0 ⊢
    have HW2 : Hid (w.heap.size ≤ w2.heap.size) := hide (unhide HB2).size
    have HB0 := hide ((unhide HB2).trans ((unhide HBW).mono (unhide HB2).size))
    clear hW hmm HB2 HBW
    obtain ⟨M, hM⟩ : ∃ M, w2.heap.size = M := ⟨_, rfl⟩
    rw [hM] at HL0 HW2 ⊢
    clear hM
    go_loopw [5, 17] (fun _ i wr => ∃ (k n : Nat) (F : List UInt8 → Int) (so : Option Addr) (cp : Nat) (xs : List ByteArray), k ≤ l.length ∧ i = .int .i64 k ∧ n ≤ k ∧ Hid (Line wr (M + 2) (M + 1) M n F so cp xs) ∧ Hid (KW l k F xs) ∧ Hid (Below w.heap.size w wr)) (fun _ i _ => l.length - (intOf i).toNat)
    case atStart => exact ⟨0, 0, fun _ => 0, none, 0, [], Nat.zero_le _, rfl, Nat.le_refl _, HL0, hide (KW.start l _), HB0⟩
    case round =>
      clear HB0 HL0
      obtain ⟨k, n, F, so, cp, xs, hk, rfl, hn, HLI, HKW, HB⟩ := hrel
      by_cases hp : k < l.length
      · rcases (unhide HK).kept (unhide HB) (unhide HB).size with hq | ⟨b, off, rfl, hbl, hbn, hcs⟩
        · rw [hq] at hp; simp at hp
        obtain ⟨c0, c1, d0, d1, hr⟩ := hcs k hp
        have HNX := hide (fun (zs : List ByteArray) (hz : zs.Perm (if cntU [] (l[k]'hp).uses = 0 then xs ++ [(l[k]'hp).name] else xs)) => (unhide HKW).next (unhide HGD).asc hp hz)
        have hu4 := (unhide HGD).2.1 k hp
        obtain ⟨x, hx⟩ : ∃ x, l[k]'hp = x := ⟨_, rfl⟩
        rw [hx] at hr HNX hu4
        have hx7 : xs.length ≤ 7 := by have := (unhide HKW).len; omega
        have HWT := hide (fun (W' : World) (hb : Below wr.heap.size wr W') => wait_any (M + 2) (M + 1) M n F so cp xs lo (.agg #[c0, c1]) x W' ((unhide HLI).step hb) hx7 (by omega) (hr.kept hb hb.size) hu4)
        have HOW := hide (fun k' (e : (Value.slice so xs.length cp).ownBlock = some k') => ((unhide HLI).row.lt k' e).1)
        obtain ⟨aa, ca, hv, _, _⟩ := hr
        simp only [Value.agg.injEq, Array.mk.injEq, List.cons.injEq, and_true] at hv
        obtain ⟨rfl, rfl⟩ := hv
        obtain ⟨UL, hUL⟩ : ∃ UL, x.uses.length = UL := ⟨_, rfl⟩
        rw [hUL] at d1 HWT
        clear hcs hx hUL hu4 hx7
        go_wp2_with fail
        refine (unhide HWT _ ((Below.refl _ wr).alloc (Nat.le_refl _) _)).mono ?_
        rintro r w3 ⟨rfl, zs, hz, so', cp', hline, hso, hlk⟩
        have HL3 := hide hline
        have HK3 := hide (unhide HNX zs hz)
        have HB3 := hide (((unhide HB).alloc (unhide HB).size _).trans (hlk.below (by have := (unhide HB).size; simp; omega) (by have := unhide HW2; omega) (unhide HW2) (fun k' e => by have := unhide HOW k' e; have := unhide HW2; omega)))
        clear hz hline hso hlk HWT HNX HOW HLI HKW HB
        go_wp2
        go_roundw
        case rel => exact ⟨k + 1, n + 1, _, so', cp', zs, by omega, by go_num, by omega, HL3, HK3, HB3⟩
        case measure => simp [intOf]; omega
      · obtain rfl : k = l.length := by omega
        have HKI := hide ((unhide HKW).end (unhide HOG))
        have hnb : n + 8 * leftG l [] ≤ 72 := by have := left_le l []; omega
        have HLE := hide (left_le l [])
        have HB1 := HB
        have HL1 := HLI
        go_wp2
        clear HKW HB HLI
        go_loopg [6] (leftG l []) (fun g v6 wq => ∃ (n : Nat) (F : List UInt8 → Int) (so : Option Addr) (cp : Nat) (xs out : List ByteArray) (so2 : Option Addr) (cp2 : Nat), v6 = .slice so2 out.length cp2 ∧ n + 8 * leftG l out ≤ 72 ∧ Hid (g = leftG l out) ∧ Hid (Line wq (M + 2) (M + 1) M n F so cp xs) ∧ Hid (KI l R out F xs) ∧ Hid (HRow wq (M + 2) so2 cp2 out) ∧ Hid (Apart (.slice so2 out.length cp2) (.slice so xs.length cp)) ∧ Hid (out.length + leftG l out ≤ l.length) ∧ Hid (Below w.heap.size w wq))
        case atStart => exact ⟨n, F, so, cp, xs, [], none, 0, rfl, hnb, hide rfl, HL1, HKI, hide (World.ownsRow_nil _ _ _ _), hide (fun k e => by cases e), hide (by simpa using unhide HLE), HB1⟩
        case round =>
          clear HL1 HB1 HKI HLE hnb hn hk hp
          obtain ⟨n, F, so, cp, xs, out, so2, cp2, rfl, hn, HG, HLI, HKI, HROW, HAP, HLEN, HB⟩ := hrel
          have hc1 := (unhide HLI).c1
          by_cases h0 : xs.length = 0
          · have HX := hide (by
              have hx := List.eq_nil_of_length_eq_zero h0
              have := unhide HKI
              rw [hx] at this
              exact this.done : out = R)
            have HWD := hide (OwnW.row (unhide HROW) (Nat.le_refl _))
            rw [h0] at hc1
            go_wp2_with fail
            refine (hlen_any _ 0 _ _).mono ?_
            rintro r _ ⟨rfl, rfl⟩
            go_wp2
            go_ret
            obtain rfl := unhide HX
            have hI2 := (unhide HWD).same (lo' := w.heap.size) (w' := _) (fun _ _ _ => rfl) (by have := unhide HW2; omega) (Nat.le_refl _)
            first | exact ⟨_, rfl, hI2, unhide HB⟩ | exact ⟨so2, ⟨cp2, rfl⟩, hI2, unhide HB⟩
          · have hx8 : xs.length ≤ 8 := Nat.le_trans (unhide HKI).len hl8
            have HNE := hide (next_any (M + 2) (M + 1) M n F so cp xs wr (unhide HLI) (by omega) hx8)
            go_wp2_with fail
            refine (hlen_any _ xs.length _ _).mono ?_
            rintro r _ ⟨rfl, rfl⟩
            go_wp2_with fail
            refine (unhide HNE).mono ?_
            rintro r w4 ⟨rfl, ys, hy, hline, hkept⟩
            obtain ⟨hKM, hOG, hlt⟩ := (unhide HKI).pop (unhide HGD).asc (unhide HLI).hp (by omega) hy
            have HCA := hide ((unhide HKI).came (by omega))
            obtain ⟨kx, hkx, ekx⟩ := (unhide HKI).size (by omega)
            have hylen : ys.length + 1 = xs.length := by simpa using hy.length_eq
            have HLK : Hid (LK wr w4 (M + 1) M (Value.slice so xs.length cp).ownBlock) := hide hkept.lk
            have HOW := hide (fun k' (e : (Value.slice so xs.length cp).ownBlock = some k') => ((unhide HLI).row.lt k' e).1)
            have HB4 := hide ((unhide HB).trans ((unhide HLK).below (unhide HB).size (by have := unhide HW2; omega) (unhide HW2) (fun k' e => by have := unhide HOW k' e; have := unhide HW2; omega)))
            have HR4 : Hid (HRow w4 (M + 2) so2 cp2 out) := hide ((unhide HROW).lk (unhide HLK) (by omega) (by omega) (unhide HAP).ne)
            have HA4 : Hid (Apart (.slice so2 out.length cp2) (.slice so ys.length cp)) := hide (fun k e c => unhide HAP k e (by cases so <;> exact c))
            have HL4 := hide hline
            have HKM := hide hKM
            have HOGN := hide hOG
            have HLT := hide hlt
            have hol : out.length ≤ 7 := by have := unhide HLEN; have := unhide HLT; omega
            have hxs : (atF xs 0).size ≤ 281474976710656 := by
              rw [ekx]
              have := unhide HSZ _ (List.getElem_mem hkx)
              omega
            obtain ⟨x, hx⟩ : ∃ x, atF xs 0 = x := ⟨_, rfl⟩
            rw [hx] at hxs HKM HOGN HLT HCA ⊢
            have HCL := hide (fun (W' : World) => Clone_any x W' hxs)
            clear hy hline hkept hKM hOG hlt ekx hkx HNE hc1 HLI HKI HROW HAP HB HLK HOW hx
            go_wp2_with fail
            refine (unhide HCL _).mono ?_
            rintro r w5 ⟨rfl, hb5⟩
            have HB5 := hide ((unhide HB4).trans (hb5.mono (unhide HB4).size))
            have HL5 := hide ((unhide HL4).step hb5)
            have HR5 : Hid (w5.ownsRow (M + 2) 9 1 (.slice so2 out.length cp2) out.length (out.map Value.string)) := hide (own_keptG (unhide HR4) hb5)
            clear hb5 HB4 HL4 HR4 HCL
            go_wp2_with (at_builtin; refine wpList_append_lies _ rfl _ _ 25 rfl (M + 2) 9 i0 (.string ⟨#[]⟩) 1 16 Try.underlying25 hi hz0 hz1 hz2 rfl (by decide) (.slice so2 out.length cp2) out.length (out.map Value.string) rfl ((unhide HR5).alloc _) ⟨w5.heap.size, 0, none⟩ 1 1 [.string x] rfl rfl (fun j u hu => by
              match j, hu with
              | 0, hu => cases hu; exact (Blk.new w5 [.string x] 9).cellAt (i := 0) rfl) (by simp [Value.oneCell']) (by decide) (by unfold maxLen; omega) (by omega) (by have := (unhide HL5).bw; simp; omega) (w5.heap.size + 1) (by simp) ?_; intro g6 cp6 w6 hown6 hgrow6 hat6 hlt6)
            have HA5 : Hid ((Value.slice so ys.length cp).ownBlock = none ∨ (Value.slice so ys.length cp).ownBlock ≠ (Value.slice so2 out.length cp2).ownBlock) := hide (unhide HA4).symm.ne
            have HL6 := hide (((unhide HL5).step ((Below.refl _ w5).alloc (Nat.le_refl _) (.cells #[.string x] 9))).grown hgrow6 (fun k' e => ((unhide HR5).lt k' e).1) (unhide HA5))
            have hg6 : Below (M + 2) (w5.alloc (.cells #[.string x] 9)) w6 := (Below.refl _ _).grown hgrow6 (by have := (unhide HL5).bw; simp; omega) (fun k' e => ((unhide HR5).lt k' e).1)
            have HB6 := hide (((unhide HB5).alloc (unhide HB5).size (.cells #[.string x] 9)).trans (hg6.mono (by have := unhide HW2; omega)))
            clear hg6
            have HR6 : Hid (HRow w6 (M + 2) (some ⟨g6, 0, none⟩) cp6 (out ++ [x])) := hide (by
              unfold HRow
              rw [List.length_append, List.map_append]
              exact hown6)
            have HA6 : Hid (Apart (.slice (some ⟨g6, 0, none⟩) (out ++ [x]).length cp6) (.slice so ys.length cp)) := hide (fun k' e c => by
              have e' : g6 = k' := Option.some.inj e
              subst e'
              rcases hat6 with h | h
              · exact unhide HA4 g6 h c
              · have := ((unhide HL5).row.lt g6 c).2
                omega)
            have HLN : Hid ((out ++ [x]).length = out.length + 1) := hide (by simp)
            clear hown6 hgrow6 hat6 hlt6 HA5 HA4 HL5 HB5 HR5
            go_loopw [36] (fun i wq => ∃ (j n2 : Nat) (F2 : List UInt8 → Int) (so3 : Option Addr) (cp3 : Nat) (zs : List ByteArray), j ≤ l.length ∧ i = .int .i64 j ∧ n2 ≤ n + j ∧ Hid (Line wq (M + 2) (M + 1) M n2 F2 so3 cp3 zs) ∧ Hid (KM l out x j F2 zs) ∧ Hid (HRow wq (M + 2) (some ⟨g6, 0, none⟩) cp6 (out ++ [x])) ∧ Hid (Apart (.slice (some ⟨g6, 0, none⟩) (out ++ [x]).length cp6) (.slice so3 zs.length cp3)) ∧ Hid (Below w.heap.size w wq)) (fun i _ => l.length - (intOf i).toNat)
            case atStart => exact ⟨0, n, F, so, cp, ys, Nat.zero_le _, rfl, Nat.le_refl _, HL6, HKM, HR6, HA6, HB6⟩
            case round =>
              clear HL6 HKM HR6 HA6 HB6
              obtain ⟨j, n2, F2, so3, cp3, zs, hj, rfl, hn2, HLI, HKM, HROW, HAP, HB⟩ := hrel
              by_cases hp : j < l.length
              · rcases (unhide HK).kept (unhide HB) (unhide HB).size with hq | ⟨b, off, rfl, hbl, hbn, hcs⟩
                · rw [hq] at hp; simp at hp
                obtain ⟨c0, c1, d0, d1, hr⟩ := hcs j hp
                have HOT := hide (fun (hu : hasW (l[j]'hp).uses x = false) => (unhide HKM).other hp hu)
                have HUS := hide (fun (hu : hasW (l[j]'hp).uses x = true) => (unhide HKM).user (unhide HGD).asc (unhide HCA) hp hu ((unhide HGD).2.1 j hp))
                obtain ⟨y, hy⟩ : ∃ y, l[j]'hp = y := ⟨_, rfl⟩
                rw [hy] at hr HOT HUS
                obtain ⟨aa, ca, hv, hzz, hww⟩ := hr
                simp only [Value.agg.injEq, Array.mk.injEq, List.cons.injEq, and_true] at hv
                obtain ⟨rfl, rfl⟩ := hv
                obtain ⟨W7, hW7⟩ : ∃ W7, W7 = wr.alloc (.cells #[.string y.name, .slice aa y.uses.length ca] 30) := ⟨_, rfl⟩
                have bW : Below wr.heap.size wr W7 := by rw [hW7]; exact (Below.refl _ _).alloc (Nat.le_refl _) _
                have sW : W7.heap.size = wr.heap.size + 1 := by rw [hW7]; simp
                have kW : Blk W7 wr.heap.size [.string y.name, .slice aa y.uses.length ca] := by rw [hW7]; exact Blk.new wr _ _
                have HN0 := hide (kW.cellAt (i := 0) rfl)
                have HCN := hide (containsW_any lo aa ca y.uses x W7 (hww.kept bW bW.size) hzz.2.1)
                have HSN := hide hzz.1
                have HL7 := hide ((unhide HLI).step bW)
                have HR7 : Hid (HRow W7 (M + 2) (some ⟨g6, 0, none⟩) cp6 (out ++ [x])) := hide (own_keptG (unhide HROW) bW)
                have HB7 := hide ((unhide HB).trans (bW.mono (unhide HB).size))
                have HS7 := hide sW
                obtain ⟨hb', hhb⟩ : ∃ t, hasW y.uses x = t := ⟨_, rfl⟩
                rw [hhb] at HCN HOT HUS
                obtain ⟨UL, hUL⟩ : ∃ UL, y.uses.length = UL := ⟨_, rfl⟩
                rw [hUL] at d1 HCN hW7
                clear hcs hy hzz hww bW sW kW hhb hUL HLI HROW HB HKM
                go_wp2_with fail
                rw [← hW7]
                refine (unhide HCN).mono ?_
                rintro r w8 ⟨rfl, hb8⟩
                have n0 := (hb8.cell (p := ⟨wr.heap.size, 0, none⟩) (by rw [unhide HS7]; exact Nat.lt_succ_self _)).trans (unhide HN0)
                have HL8 := hide ((unhide HL7).step hb8)
                have HR8 : Hid (HRow w8 (M + 2) (some ⟨g6, 0, none⟩) cp6 (out ++ [x])) := hide (own_keptG (unhide HR7) hb8)
                have HB8 := hide ((unhide HB7).trans (hb8.mono (unhide HB7).size))
                clear hb8 HCN HL7 HR7 HB7 HN0 HS7 hW7
                cases hb' with
                | false =>
                  have HKM := hide (unhide HOT rfl)
                  clear HOT HUS
                  go_wp2
                  go_roundw
                  case rel => exact ⟨j + 1, n2, F2, so3, cp3, zs, by omega, by go_num, by omega, HL8, HKM, HR8, HAP, HB8⟩
                  case measure => simp [intOf]; omega
                | true =>
                  obtain ⟨u1, u2, u3, u4⟩ := unhide HUS rfl
                  have HU4 := hide u4
                  have HFO := hide (found_any (M + 2) (M + 1) M n2 F2 so3 cp3 zs y.name (unhide HSN) w8 (unhide HL8) (by omega) (by omega) u2 (by omega))
                  have HOW := hide (fun k' (e : (Value.slice so3 zs.length cp3).ownBlock = some k') => (unhide HL8).row.lt k' e)
                  clear HOT HUS u1 u2 u3 u4
                  go_wp2_with fail
                  refine (unhide HFO).mono ?_
                  rintro r w9 ⟨rfl, vs, hvs, so9, cp9, hline, hso, hlk⟩
                  have HKM := hide (unhide HU4 vs hvs)
                  have HL9 := hide hline
                  have HR9 : Hid (HRow w9 (M + 2) (some ⟨g6, 0, none⟩) cp6 (out ++ [x])) := hide ((unhide HR8).lk hlk (by omega) (by omega) (unhide HAP).ne)
                  have HB9 := hide ((unhide HB8).trans (hlk.below (unhide HB8).size (by have := unhide HW2; omega) (unhide HW2) (fun k' e => by have := (unhide HOW k' e).1; have := unhide HW2; omega)))
                  have HA9 : Hid (Apart (.slice (some ⟨g6, 0, none⟩) (out ++ [x]).length cp6) (.slice so9 vs.length cp9)) := hide (fun k' e c => by
                    have e' : g6 = k' := Option.some.inj e
                    subst e'
                    rcases hso with h | ⟨H, h, hH⟩
                    · subst h
                      exact unhide HAP g6 rfl (by cases so9 <;> exact c)
                    · subst h
                      have e2 : H = g6 := Option.some.inj c
                      have := ((unhide HR8).lt g6 rfl).2
                      omega)
                  clear hvs hline hso hlk HU4 HFO HOW HL8 HR8 HB8 HAP n0
                  go_wp2
                  go_roundw
                  case rel => exact ⟨j + 1, n2 + 1, _, so9, cp9, vs, by omega, by go_num, by omega, HL9, HKM, HR9, HA9, HB9⟩
                  case measure => simp [intOf]; omega
              · obtain rfl : j = l.length := by omega
                have HKI := hide ((unhide HKM).end (unhide HOGN))
                go_wp2
                go_roundg (leftG l (out ++ [x]))
                case rel => exact ⟨n2, F2, so3, cp3, zs, out ++ [x], some ⟨g6, 0, none⟩, cp6, by rw [unhide HLN], by have := unhide HLT; omega, hide rfl, HLI, HKI, HROW, HAP, hide (by rw [unhide HLN]; have := unhide HLT; have := unhide HLEN; omega), HB⟩
                case measure => have := unhide HG; have := unhide HLT; omega
end Go.Proofs.Ytgdeehldpmfpgaa
