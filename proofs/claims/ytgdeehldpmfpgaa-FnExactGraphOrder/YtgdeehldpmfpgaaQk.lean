/- The walk of spec.GraphOrder. Conditions: the nodes can be read. -/
import Derived.Test.YtgdeehldpmfpgaaQj
import Derived.Deep.LoopGhost
namespace Go.Proofs.Ytgdeehldpmfpgaa
open Go.RowKit Go.PlainAid

theorem own_wdsG {W : World} {m k : Nat} {v : Value} {ws : List ByteArray} (h : W.ownsRow m 9 1 v k (ws.map Value.string)) (hk : k = ws.length) : ∃ (a : Option Addr) (cap : Nat), v = .slice a ws.length cap ∧ IsWds W m W.heap.size a ws := by
  have hh := h
  rcases h.2 with ⟨h1, h2⟩ | ⟨g, cap, cur, h1, hb, _⟩
  · exact ⟨none, 0, by rw [h1, ← hk, h2], .inl (List.length_eq_zero_iff.1 (by omega))⟩
  · subst h1
    refine ⟨some ⟨g, 0, none⟩, cap, by rw [hk], .inr ⟨g, 0, rfl, hb, (hh.lt g rfl).2, fun j hj => ?_⟩⟩
    have := hh.cells (g := g) rfl j (.string ws[j]) (by simp [hj])
    rw [Addr.add_lit, Nat.zero_add] at this
    rw [Nat.zero_add]
    exact this
theorem own_keptG {W W' : World} {base e s n : Nat} {v : Value} {xs : List Value} (h : W.ownsRow base e s v n xs) (hb : Below W.heap.size W W') : W'.ownsRow base e s v n xs := by
  refine ⟨h.1, ?_⟩
  rcases h.2 with hn | ⟨g, cap, cur, hv, hg, hc, rest⟩
  · exact .inl hn
  · refine .inr ⟨g, cap, cur, hv, hg, ?_, rest⟩
    have hlt : g < W.heap.size := by
      rcases Nat.lt_or_ge g W.heap.size with x | x
      · exact x
      · rw [Array.getElem?_eq_none x] at hc; cases hc
    exact (hb.block g hlt).trans hc
theorem own_sliceG {W : World} {m e size k : Nat} {v : Value} {xs : List Value} (h : W.ownsRow m e size v k xs) : ∃ ao cap, v = .slice ao k cap := by
  rcases h.2 with ⟨h1, h2⟩ | ⟨g, cap, cur, h1, _⟩
  · exact ⟨none, 0, by rw [h1, h2]⟩
  · exact ⟨_, cap, h1⟩
theorem one_newG (W : World) (v : Value) (t : TypeId) : ∀ j u, [v][j]? = some u → (W.alloc (.cells #[v] t)).cell? ((⟨W.heap.size, 0, none⟩ : Addr).add j) = some u := fun j u hu => by
  rw [Addr.add_lit, Nat.zero_add, alloc_cell]
  simpa using hu

set_option maxRecDepth 100000 in
set_option maxHeartbeats 4000000 in
theorem GraphOrderS_any (lo : Nat) (a : Option Addr) (cap : Nat) (l : List TG) (w : World) (hk : IsGns (IsGn w lo w.heap.size) w lo w.heap.size a l) (hl : l.length ≤ maxLen) :
    Calls Try.prog 13 #[.slice a l.length cap] w fun r w' => ∃ (a' : Option Addr) (cap' : Nat), r = .returned (.slice a' (orderR l).length cap') ∧ IsWds w' w.heap.size w'.heap.size a' (orderR l) ∧ Below w.heap.size w w' := by
  obtain ⟨i0, hi, hz0, hz1, hz2⟩ := info_parts wsinfo
  have HK := hide hk
  have HOK := hide (fun (W' : World) (hb : Below w.heap.size w W') => GraphOkS_any lo a cap l W' (hk.kept hb hb.size) hl)
  unfold maxLen at hl
  have HST := hide (OG.start (l := l))
  have HEM : Hid (graphB l = false → orderR l = []) := hide (fun h => by unfold orderR; rw [h]; rfl)
  have H8 : Hid (graphB l = true → l.length ≤ 8) := hide (fun h => by
    by_cases g : GoodG l
    · exact g.1
    · rw [graphB_no g] at h; cases h)
  obtain ⟨R, hR⟩ : ∃ R, orderR l = R := ⟨_, rfl⟩
  rw [hR] at HST HEM ⊢
  obtain ⟨B, hB⟩ : ∃ B, graphB l = B := ⟨_, rfl⟩
  rw [hB] at HOK HST HEM H8
  obtain ⟨W, hW⟩ : ∃ W, W = w.alloc (.cells #[] 9) := ⟨_, rfl⟩
  have HBW : Hid (Below w.heap.size w W) := hide (by rw [hW]; exact (Below.refl _ _).alloc (Nat.le_refl _) _)
  have HO0 : Hid (W.ownsRow w.heap.size 9 1 (.slice (some ⟨w.heap.size, 0, none⟩) 0 0) 0 (([] : List ByteArray).map Value.string)) := hide (by rw [hW]; exact World.ownsRow_lit w #[] 0 (Nat.le_refl _) (Nat.zero_le _) rfl)
  clear hk hR hB
  go_enter Try.func13, Try.ntmps13
  go_wp2_with fail
  rw [← hW]
  clear hW
  refine (unhide HOK _ (unhide HBW)).mono ?_
  rintro r w2 ⟨rfl, hb2⟩
  have HB2 := hide ((unhide HBW).trans (hb2.mono (unhide HBW).size))
  have HO2 := hide (own_keptG (unhide HO0) hb2)
  clear hb2 HOK HO0
  cases B with
  | false =>
    have HX := hide (unhide HEM rfl)
    have HWD := hide (own_wdsG (unhide HO2) rfl)
    go_wp2
    go_ret
    obtain ⟨a', c', e, hI⟩ := unhide HWD
    cases e
    rw [unhide HX]
    exact ⟨_, _, rfl, hI, unhide HB2⟩
  | true =>
    have HOG := hide (unhide HST rfl)
    have hl8 := unhide H8 rfl
    clear HST HEM H8 hl
    go_wp2
    go_loopg [3, 4, 5] (2 * leftG l [] + 1) (fun g v3 v4 _ wr => ∃ (out : List ByteArray) (so : Option Addr) (cp : Nat) (bm : Bool), v3 = .slice so out.length cp ∧ v4 = .bool bm ∧ Hid (g = 2 * leftG l out + bm.toNat) ∧ Hid (wr.ownsRow w.heap.size 9 1 (.slice so out.length cp) out.length (out.map Value.string)) ∧ Hid (OG l out R) ∧ Hid (bm = false → ∀ j (hj : j < l.length), canB out l[j] = false) ∧ Hid (out.length + leftG l out ≤ l.length) ∧ Hid (Below w.heap.size w wr))
    case atStart => exact ⟨[], some ⟨w.heap.size, 0, none⟩, 0, true, rfl, rfl, hide rfl, HO2, HOG, hide (fun h => by cases h), hide (by have := left_le l []; simpa using this), HB2⟩
    case round =>
      obtain ⟨out, so, cp, bm, rfl, rfl, HG, HROW, HOGR, HFIN, HLEN, HB⟩ := hrel
      cases bm with
      | false =>
        have HX := hide ((unhide HOGR).done (unhide HFIN rfl))
        have HWD := hide (own_wdsG (unhide HROW) rfl)
        go_wp2
        go_ret
        obtain ⟨a', c', e, hI⟩ := unhide HWD
        cases e
        obtain rfl := unhide HX
        first | exact ⟨so, ⟨cp, rfl⟩, hI, unhide HB⟩ | exact ⟨_, _, rfl, hI, unhide HB⟩
      | true =>
        clear HFIN
        go_wp2
        go_loopw [3, 4, 5] (fun v3 v4 v5 wq => ∃ (k : Nat) (out2 : List ByteArray) (so2 : Option Addr) (cp2 : Nat) (bm2 : Bool), k ≤ l.length ∧ v5 = .int .i64 k ∧ v3 = .slice so2 out2.length cp2 ∧ v4 = .bool bm2 ∧ Hid (wq.ownsRow w.heap.size 9 1 (.slice so2 out2.length cp2) out2.length (out2.map Value.string)) ∧ Hid (bm2 = false → out2 = out ∧ ∀ j (hj : j < l.length), j < k → canB out l[j] = false) ∧ Hid (bm2 = true → OG l out2 R ∧ leftG l out2 < leftG l out ∧ out2.length = out.length + 1) ∧ Hid (Below w.heap.size w wq)) (fun _ _ v5 _ => l.length - (intOf v5).toNat)
        case atStart => exact ⟨0, out, so, cp, false, Nat.zero_le _, rfl, rfl, rfl, HROW, hide (fun _ => ⟨rfl, fun j _ hj => absurd hj (Nat.not_lt_zero _)⟩), hide (fun h => by cases h), HB⟩
        case round =>
          clear HROW HB
          obtain ⟨k, out2, so2, cp2, bm2, hk, rfl, rfl, rfl, HROW, HF, HT, HB⟩ := hrel
          cases bm2 with
          | true =>
            have HTT := hide (unhide HT rfl)
            clear HF HT
            go_wp2
            all_goals
              go_roundg (2 * leftG l out2 + 1)
              case rel => exact ⟨out2, so2, cp2, true, rfl, rfl, hide rfl, HROW, hide (unhide HTT).1, hide (fun h => by cases h), hide (by have := unhide HTT; have := unhide HLEN; omega), HB⟩
              case measure => have h1 := unhide HG; have h2 := (unhide HTT).2.1; simp at h1; omega
          | false =>
            obtain ⟨hoo, hno⟩ := unhide HF rfl
            subst hoo
            have HNO := hide hno
            clear HF HT hno
            by_cases hp : k < l.length
            · rcases (unhide HK).kept (unhide HB) (unhide HB).size with hq | ⟨b, off, rfl, hbl, hbn, hcs⟩
              · rw [hq] at hp; simp at hp
              obtain ⟨c0, c1, d0, d1, hr⟩ := hcs k hp
              have HSTEP := hide (fun he => (unhide HOGR).next hp (fun j hj hjk => unhide HNO j hj hjk) he)
              have HSKIP := hide (fun (he : canB out2 (l[k]'hp) = false) (j : Nat) (hj : j < l.length) (hjk : j < k + 1) => show canB out2 l[j] = false from by
                by_cases e : j = k
                · subst e; exact he
                · exact unhide HNO j hj (by omega))
              obtain ⟨x, hx⟩ : ∃ x, l[k]'hp = x := ⟨_, rfl⟩
              rw [hx] at hr HSTEP HSKIP
              obtain ⟨wa, wc, hww, hWD⟩ := own_wdsG (unhide HROW) rfl
              simp only [Value.slice.injEq] at hww
              obtain ⟨rfl, _, rfl⟩ := hww
              have hol : out2.length ≤ maxLen := by have := unhide HLEN; unfold maxLen; omega
              have hol2 : out2.length ≤ 8 := by have := unhide HLEN; omega
              have HHAS := hide (l5Has_any _ so2 cp2 out2 x.name wr hWD hol)
              have HRD := hide (l5Ready_any lo _ (.agg #[c0, c1]) x so2 cp2 out2 wr hr hWD hol)
              have HCAN : Hid (canB out2 x = (!(hasW out2 x.name) && readyB x out2)) := hide rfl
              obtain ⟨aa, ca, hv, hzz, _⟩ := hr
              simp only [Value.agg.injEq, Array.mk.injEq, List.cons.injEq, and_true] at hv
              obtain ⟨rfl, rfl⟩ := hv
              obtain ⟨hb', hhb⟩ : ∃ hb', hasW out2 x.name = hb' := ⟨_, rfl⟩
              obtain ⟨rb, hrb⟩ : ∃ rb, readyB x out2 = rb := ⟨_, rfl⟩
              rw [hhb] at HHAS HCAN
              rw [hrb] at HRD HCAN
              clear hcs hx hWD hzz hhb hrb hol
              go_wp2_with fail
              refine (unhide HHAS).mono ?_
              rintro r w3 ⟨rfl, rfl⟩
              clear HHAS
              cases hb' with
              | true =>
                have HE := hide (unhide HSKIP ((unhide HCAN).trans rfl))
                clear HSTEP HSKIP HCAN HRD
                go_wp2
                go_roundw
                case rel => exact ⟨k + 1, out2, so2, cp2, false, by omega, by go_num, rfl, rfl, HROW, hide (fun _ => ⟨rfl, unhide HE⟩), hide (fun h => by cases h), HB⟩
                case measure => simp [intOf]; omega
              | false =>
                go_wp2_with fail
                refine (unhide HRD).mono ?_
                rintro r w4 ⟨rfl, hb4⟩
                have HB4 := hide ((unhide HB).trans (hb4.mono (unhide HB).size))
                have HROW4 := hide (own_keptG (unhide HROW) hb4)
                have d0' := (hb4.cell (p := ⟨b, off + k * 2, none⟩) hbn).trans d0
                clear HRD hb4 HB HROW d0 d1
                cases rb with
                | false =>
                  have HE := hide (unhide HSKIP ((unhide HCAN).trans rfl))
                  clear HSTEP HSKIP HCAN d0'
                  go_wp2
                  go_roundw
                  case rel => exact ⟨k + 1, out2, so2, cp2, false, by omega, by go_num, rfl, rfl, HROW4, hide (fun _ => ⟨rfl, unhide HE⟩), hide (fun h => by cases h), HB4⟩
                  case measure => simp [intOf]; omega
                | true =>
                  have HE := hide (unhide HSTEP ((unhide HCAN).trans rfl))
                  clear HSTEP HSKIP HCAN
                  go_wp2_with (at_builtin; refine wpList_append_own _ rfl _ _ 25 rfl w.heap.size 9 i0 (.string ⟨#[]⟩) 1 16 Try.underlying25 hi hz0 hz1 hz2 rfl (by decide) _ _ _ rfl ((unhide HROW4).alloc _) ⟨w4.heap.size, 0, none⟩ 1 1 [.string x.name] rfl rfl (one_newG w4 (.string x.name) 9) (by simp [Value.oneCell']) (by unfold maxLen; omega) (by omega) (by have := (unhide HB4).size; simp; omega) ?_; intro v5 w5 hown5 hgrow5 _; obtain ⟨so5, cp5, rfl⟩ := own_sliceG hown5; have HB5 := hide ((unhide HB4).trans (((Below.refl _ w4).alloc (unhide HB4).size (.cells #[.string x.name] 9)).grown hgrow5 (by have := (unhide HB4).size; simp; omega) (fun q hq => (((unhide HROW4).lt q hq)).1))); have HO5 := hide hown5; clear hown5 hgrow5 d0')
                  go_roundw
                  case rel =>
                    have hlen5 : (out2 ++ [x.name]).length = out2.length + 1 := by simp
                    refine ⟨k + 1, out2 ++ [x.name], so5, cp5, true, by omega, by go_num, by rw [hlen5], rfl, hide ?_, hide (fun h => by cases h), hide (fun _ => ⟨(unhide HE).1, (unhide HE).2, hlen5⟩), HB5⟩
                    rw [hlen5, List.map_append]
                    exact unhide HO5
                  case measure => simp [intOf]; omega
            · have HALL : Hid (∀ j (hj : j < l.length), canB out2 l[j] = false) := hide (fun j hj => unhide HNO j hj (by omega))
              go_wp2
              go_roundg (2 * leftG l out2)
              case rel => exact ⟨out2, so2, cp2, false, rfl, rfl, hide rfl, HROW, HOGR, hide (fun _ => unhide HALL), HLEN, HB⟩
              case measure => have h1 := unhide HG; simp at h1; omega
end Go.Proofs.Ytgdeehldpmfpgaa
