/- Who uses one of some, by whatever way, plain; the walk of spec's l5Grow. Conditions: the nodes and the names can be read; at most eight nodes. -/
import Derived.Test.YtgdeehldpmfpgaaQk
namespace Go.Proofs.Ytgdeehldpmfpgaa
open Go.RowKit Go.PlainAid

/-- A node that uses one of some, by whatever way. -/
inductive ReachG (l : List TG) (names : List ByteArray) : TG → Prop
  | one {n : TG} : n ∈ l → usesB n names = true → ReachG l names n
  | more {n m : TG} : n ∈ l → ReachG l names m → usesB n [m.name] = true → ReachG l names n
theorem ReachG.mem {l : List TG} {names : List ByteArray} {n : TG} (h : ReachG l names n) : n ∈ l := by
  cases h with
  | one h _ => exact h
  | more h _ _ => exact h
def growB (names out : List ByteArray) (n : TG) : Bool := !(hasW out n.name) && (usesB n names || usesB n out)
/-- All of a list are such nodes. -/
def SoundG (l : List TG) (names out : List ByteArray) : Prop := ∀ s, hasW out s = true → ∃ m, ReachG l names m ∧ (m.name.toList == s.toList) = true
/-- A list that holds just these nodes. -/
def GrowP (l : List TG) (names out : List ByteArray) : Prop := SoundG l names out ∧ ∀ j (hj : j < l.length), growB names out l[j] = false
theorem SoundG.nil (l : List TG) (names : List ByteArray) : SoundG l names [] := fun s h => by simp [hasW] at h
theorem uses_out {n : TG} {out : List ByteArray} (h : usesB n out = true) : ∃ y, y ∈ n.uses ∧ hasW out y = true := by
  obtain ⟨y, hy, hh⟩ := List.any_eq_true.1 h
  exact ⟨y, hy, hh⟩
theorem SoundG.next {l : List TG} {names out : List ByteArray} {x : TG} (h : SoundG l names out) (hx : x ∈ l) (he : growB names out x = true) : SoundG l names (out ++ [x.name]) := by
  have hr : ReachG l names x := by
    unfold growB at he
    simp only [Bool.and_eq_true, Bool.or_eq_true] at he
    rcases he.2 with hu | hu
    · exact .one hx hu
    · obtain ⟨y, hy, hh⟩ := uses_out hu
      obtain ⟨m, hm, hmy⟩ := h y hh
      exact .more hx hm (List.any_eq_true.2 ⟨y, hy, by simpa [hasW] using hmy⟩)
  intro s hs
  rw [hasW_snoc, Bool.or_eq_true] at hs
  rcases hs with hs | hs
  · exact h s hs
  · exact ⟨x, hr, hs⟩
theorem hasW_congr {out : List ByteArray} {s t : ByteArray} (h : (s.toList == t.toList) = true) : hasW out s = hasW out t := by
  have e : s.toList = t.toList := by simpa using h
  unfold hasW
  rw [e]
/-- What the list says of a name. -/
theorem GrowP.has {l : List TG} {names out : List ByteArray} (h : GrowP l names out) (s : ByteArray) : hasW out s = true ↔ ∃ m, ReachG l names m ∧ (m.name.toList == s.toList) = true := by
  refine ⟨h.1 s, fun ⟨m, hm, hs⟩ => ?_⟩
  have key : ∀ n, ReachG l names n → hasW out n.name = true := by
    intro n hn
    induction hn with
    | one hl hu =>
      obtain ⟨j, hj, rfl⟩ := List.getElem_of_mem hl
      have := h.2 j hj
      unfold growB at this
      rw [hu] at this
      simpa using this
    | @more n m2 hl hr hu ih =>
      obtain ⟨j, hj, rfl⟩ := List.getElem_of_mem hl
      have hq := h.2 j hj
      unfold growB at hq
      obtain ⟨y, hy, hh⟩ := List.any_eq_true.1 hu
      have hh2 : (m2.name.toList == y.toList) = true := by simpa [hasW] using hh
      have hu2 : usesB l[j] out = true := List.any_eq_true.2 ⟨y, hy, by rw [← hasW_congr hh2]; exact ih⟩
      rw [hu2] at hq
      simpa using hq
  rw [← hasW_congr hs]
  exact key m hm

set_option maxRecDepth 100000 in
set_option maxHeartbeats 4000000 in
theorem l5Grow_any (lo lo2 : Nat) (a : Option Addr) (cap : Nat) (l : List TG) (na : Option Addr) (ncap : Nat) (names : List ByteArray) (w : World) (hk : IsGns (IsGn w lo w.heap.size) w lo w.heap.size a l) (hl8 : l.length ≤ 8) (hN : IsWds w lo2 w.heap.size na names) (hnl : names.length ≤ maxLen) :
    Calls Try.prog 43 #[.slice a l.length cap, .slice na names.length ncap] w fun r w' => ∃ (out : List ByteArray) (a' : Option Addr) (cap' : Nat), r = .returned (.slice a' out.length cap') ∧ IsWds w' w.heap.size w'.heap.size a' out ∧ GrowP l names out ∧ out.length ≤ 8 ∧ Below w.heap.size w w' := by
  obtain ⟨i0, hi, hz0, hz1, hz2⟩ := info_parts wsinfo
  have HK := hide hk
  have HNM := hide hN
  have HNL := hide hnl
  obtain ⟨W, hW⟩ : ∃ W, W = w.alloc (.cells #[] 9) := ⟨_, rfl⟩
  have HBW : Hid (Below w.heap.size w W) := hide (by rw [hW]; exact (Below.refl _ _).alloc (Nat.le_refl _) _)
  have HO0 : Hid (W.ownsRow w.heap.size 9 1 (.slice (some ⟨w.heap.size, 0, none⟩) 0 0) 0 (([] : List ByteArray).map Value.string)) := hide (by rw [hW]; exact World.ownsRow_lit w #[] 0 (Nat.le_refl _) (Nat.zero_le _) rfl)
  clear hk hN hnl
  go_enter Try.func43, Try.ntmps43
  go_wp2
  rw [← hW]
  clear hW
  go_loopg [5, 6, 7] (2 * leftG l [] + 1) (fun g v3 v4 _ wr => ∃ (out : List ByteArray) (so : Option Addr) (cp : Nat) (bm : Bool), v3 = .slice so out.length cp ∧ v4 = .bool bm ∧ Hid (g = 2 * leftG l out + bm.toNat) ∧ Hid (wr.ownsRow w.heap.size 9 1 (.slice so out.length cp) out.length (out.map Value.string)) ∧ Hid (SoundG l names out) ∧ Hid (bm = false → ∀ j (hj : j < l.length), growB names out l[j] = false) ∧ Hid (out.length + leftG l out ≤ l.length) ∧ Hid (Below w.heap.size w wr))
  case atStart => exact ⟨[], some ⟨w.heap.size, 0, none⟩, 0, true, rfl, rfl, hide rfl, HO0, hide (SoundG.nil _ _), hide (fun h => by cases h), hide (by have := left_le l []; simpa using this), HBW⟩
  case round =>
    obtain ⟨out, so, cp, bm, rfl, rfl, HG, HROW, HSO, HFIN, HLEN, HB⟩ := hrel
    cases bm with
    | false =>
      have HX : Hid (GrowP l names out) := hide ⟨unhide HSO, unhide HFIN rfl⟩
      have HWD := hide (own_wdsG (unhide HROW) rfl)
      have hol : out.length ≤ 8 := by have := unhide HLEN; omega
      go_wp2
      go_ret
      obtain ⟨a', c', e, hI⟩ := unhide HWD
      cases e
      first | exact ⟨out, so, cp, rfl, hI, unhide HX, hol, unhide HB⟩ | exact ⟨out, so, ⟨cp, rfl⟩, hI, unhide HX, hol, unhide HB⟩
    | true =>
      clear HFIN
      go_wp2
      go_loopw [5, 6, 7] (fun v3 v4 v5 wq => ∃ (k : Nat) (out2 : List ByteArray) (so2 : Option Addr) (cp2 : Nat) (bm2 : Bool), k ≤ l.length ∧ v5 = .int .i64 k ∧ v3 = .slice so2 out2.length cp2 ∧ v4 = .bool bm2 ∧ Hid (wq.ownsRow w.heap.size 9 1 (.slice so2 out2.length cp2) out2.length (out2.map Value.string)) ∧ Hid (bm2 = false → out2 = out ∧ ∀ j (hj : j < l.length), j < k → growB names out l[j] = false) ∧ Hid (bm2 = true → leftG l out2 < leftG l out) ∧ Hid (SoundG l names out2) ∧ Hid (out2.length + leftG l out2 ≤ l.length) ∧ Hid (Below w.heap.size w wq)) (fun _ _ v5 _ => l.length - (intOf v5).toNat)
      case atStart => exact ⟨0, out, so, cp, false, Nat.zero_le _, rfl, rfl, rfl, HROW, hide (fun _ => ⟨rfl, fun j _ hj => absurd hj (Nat.not_lt_zero _)⟩), hide (fun h => by cases h), HSO, HLEN, HB⟩
      case round =>
        clear HROW HB HLEN HSO
        obtain ⟨k, out2, so2, cp2, bm2, hk, rfl, rfl, rfl, HROW, HF, HT, HSO, HLEN, HB⟩ := hrel
        by_cases hp : k < l.length
        · rcases (unhide HK).kept (unhide HB) (unhide HB).size with hq | ⟨b, off, rfl, hbl, hbn, hcs⟩
          · rw [hq] at hp; simp at hp
          obtain ⟨c0, c1, d0, d1, hr⟩ := hcs k hp
          have HMEM := hide (List.getElem_mem hp)
          have HSKIP : Hid (growB names out2 (l[k]'hp) = false → bm2 = false → out2 = out ∧ ∀ j (hj : j < l.length), j < k + 1 → growB names out l[j] = false) := hide (fun he hb => by
            obtain ⟨ho, hno⟩ := unhide HF hb
            refine ⟨ho, fun j hj hjk => ?_⟩
            by_cases e : j = k
            · subst e; rw [← ho]; exact he
            · exact hno j hj (by omega))
          obtain ⟨x, hx⟩ : ∃ x, l[k]'hp = x := ⟨_, rfl⟩
          rw [hx] at hr HSKIP HMEM
          obtain ⟨wa, wc, hww, hWD⟩ := own_wdsG (unhide HROW) rfl
          simp only [Value.slice.injEq] at hww
          obtain ⟨rfl, _, rfl⟩ := hww
          have hol : out2.length ≤ maxLen := by have := unhide HLEN; unfold maxLen; omega
          have hol2 : out2.length ≤ 8 := by have := unhide HLEN; omega
          have HHAS := hide (l5Has_any _ so2 cp2 out2 x.name wr hWD hol)
          have HU1 := hide (fun (W' : World) (hb : Below wr.heap.size wr W') => l5Uses_any lo lo2 (.agg #[c0, c1]) x na ncap names W' (hr.kept hb hb.size) (((unhide HNM).kept (unhide HB) (unhide HB).size).kept hb hb.size) (unhide HNL))
          have HU2 := hide (fun (W' : World) (hb : Below wr.heap.size wr W') => l5Uses_any lo _ (.agg #[c0, c1]) x so2 cp2 out2 W' (hr.kept hb hb.size) (hWD.kept hb hb.size) hol)
          have HGR : Hid (growB names out2 x = (!(hasW out2 x.name) && (usesB x names || usesB x out2))) := hide rfl
          have HST := hide (fun he => (unhide HSO).next (unhide HMEM) he)
          have HLT := hide (fun (hn : hasW out2 x.name = false) => left_lt (unhide HMEM) hn)
          obtain ⟨aa, ca, hv, hzz, _⟩ := hr
          simp only [Value.agg.injEq, Array.mk.injEq, List.cons.injEq, and_true] at hv
          obtain ⟨rfl, rfl⟩ := hv
          obtain ⟨hb', hhb⟩ : ∃ hb', hasW out2 x.name = hb' := ⟨_, rfl⟩
          obtain ⟨u1, hu1⟩ : ∃ u1, usesB x names = u1 := ⟨_, rfl⟩
          obtain ⟨u2, hu2⟩ : ∃ u2, usesB x out2 = u2 := ⟨_, rfl⟩
          rw [hhb] at HHAS HGR HLT
          rw [hu1] at HU1 HGR
          rw [hu2] at HU2 HGR
          clear hcs hx hWD hzz hhb hu1 hu2 hol
          have HOUT : Hid (bm2 = false → out2 = out) := hide (fun h => (unhide HF h).1)
          go_wp2_with fail
          refine (unhide HHAS).mono ?_
          rintro r w3 ⟨rfl, rfl⟩
          clear HHAS
          cases hb' with
          | true =>
            have HE := hide (unhide HSKIP ((unhide HGR).trans rfl))
            clear HSKIP HGR HST HLT HF
            go_wp2
            go_roundw
            case rel => exact ⟨k + 1, out2, so2, cp2, bm2, by omega, by go_num, rfl, rfl, HROW, HE, HT, HSO, HLEN, HB⟩
            case measure => simp [intOf]; omega
          | false =>
            go_wp2_with fail
            refine (unhide HU1 _ (Below.refl _ _)).mono ?_
            rintro r w4 ⟨rfl, hb4⟩
            have HB4 := hide ((unhide HB).trans (hb4.mono (unhide HB).size))
            have HROW4 := hide (own_keptG (unhide HROW) hb4)
            have d0' := (hb4.cell (p := ⟨b, off + k * 2, none⟩) hbn).trans d0
            have d1' := (hb4.cell (p := ⟨b, off + k * 2 + 1, none⟩) hbn).trans d1
            have HC2 := hide (unhide HU2 w4 hb4)
            have hbn4 : b < w4.heap.size := Nat.lt_of_lt_of_le hbn hb4.size
            clear HU1 HU2 hb4 HB HROW d0 d1
            cases u1 with
            | true =>
              have HE := hide (unhide HST ((unhide HGR).trans rfl))
              have HL2 := hide (unhide HLT (by first | rfl | trivial))
              clear HSKIP HGR HST HLT HF
              go_wp2_with (at_builtin; refine wpList_append_own _ rfl _ _ 25 rfl w.heap.size 9 i0 (.string ⟨#[]⟩) 1 16 Try.underlying25 hi hz0 hz1 hz2 rfl (by decide) _ _ _ rfl ((unhide HROW4).alloc _) ⟨w4.heap.size, 0, none⟩ 1 1 [.string x.name] rfl rfl (one_newG w4 (.string x.name) 9) (by simp [Value.oneCell']) (by unfold maxLen; omega) (by omega) (by have := (unhide HB4).size; simp; omega) ?_; intro v7 w7 hown7 hgrow7 _; obtain ⟨so7, cp7, rfl⟩ := own_sliceG hown7; have HB7 := hide ((unhide HB4).trans (((Below.refl _ w4).alloc (unhide HB4).size (.cells #[.string x.name] 9)).grown hgrow7 (by have := (unhide HB4).size; simp; omega) (fun q hq => (((unhide HROW4).lt q hq)).1))); have HO7 := hide hown7; clear hown7 hgrow7)
              go_roundw
              case rel =>
                have hlen7 : (out2 ++ [x.name]).length = out2.length + 1 := by simp
                refine ⟨k + 1, out2 ++ [x.name], so7, cp7, true, by omega, by go_num, by rw [hlen7], rfl, hide ?_, hide (fun h => by cases h), hide (fun _ => ?_), HE, hide (by have := unhide HL2; have := unhide HLEN; omega), HB7⟩
                · rw [hlen7, List.map_append]
                  exact unhide HO7
                · have h1 := unhide HL2
                  cases bm2 with
                  | false => (have ho := unhide HOUT (by first | rfl | trivial); subst ho; exact h1)
                  | true => exact Nat.lt_trans h1 (unhide HT (by first | rfl | trivial))
              case measure => simp [intOf]; omega
            | false =>
              go_wp2_with fail
              refine (unhide HC2).mono ?_
              rintro r w5 ⟨rfl, hb5⟩
              have HB5 := hide ((unhide HB4).trans (hb5.mono (unhide HB4).size))
              have HROW5 := hide (own_keptG (unhide HROW4) hb5)
              have e0' := (hb5.cell (p := ⟨b, off + k * 2, none⟩) hbn4).trans d0'
              clear HC2 hb5 HB4 HROW4 d0' d1'
              cases u2 with
              | true =>
                have HE := hide (unhide HST ((unhide HGR).trans rfl))
                have HL2 := hide (unhide HLT (by first | rfl | trivial))
                clear HSKIP HGR HST HLT HF
                go_wp2_with (at_builtin; refine wpList_append_own _ rfl _ _ 25 rfl w.heap.size 9 i0 (.string ⟨#[]⟩) 1 16 Try.underlying25 hi hz0 hz1 hz2 rfl (by decide) _ _ _ rfl ((unhide HROW5).alloc _) ⟨w5.heap.size, 0, none⟩ 1 1 [.string x.name] rfl rfl (one_newG w5 (.string x.name) 9) (by simp [Value.oneCell']) (by unfold maxLen; omega) (by omega) (by have := (unhide HB5).size; simp; omega) ?_; intro v7 w7 hown7 hgrow7 _; obtain ⟨so7, cp7, rfl⟩ := own_sliceG hown7; have HB7 := hide ((unhide HB5).trans (((Below.refl _ w5).alloc (unhide HB5).size (.cells #[.string x.name] 9)).grown hgrow7 (by have := (unhide HB5).size; simp; omega) (fun q hq => (((unhide HROW5).lt q hq)).1))); have HO7 := hide hown7; clear hown7 hgrow7)
                go_roundw
                case rel =>
                  have hlen7 : (out2 ++ [x.name]).length = out2.length + 1 := by simp
                  refine ⟨k + 1, out2 ++ [x.name], so7, cp7, true, by omega, by go_num, by rw [hlen7], rfl, hide ?_, hide (fun h => by cases h), hide (fun _ => ?_), HE, hide (by have := unhide HL2; have := unhide HLEN; omega), HB7⟩
                  · rw [hlen7, List.map_append]
                    exact unhide HO7
                  · have h1 := unhide HL2
                    cases bm2 with
                    | false => (have ho := unhide HOUT (by first | rfl | trivial); subst ho; exact h1)
                    | true => exact Nat.lt_trans h1 (unhide HT (by first | rfl | trivial))
                case measure => simp [intOf]; omega
              | false =>
                have HE := hide (unhide HSKIP ((unhide HGR).trans rfl))
                clear HSKIP HGR HST HLT HF
                go_wp2
                go_roundw
                case rel => exact ⟨k + 1, out2, so2, cp2, bm2, by omega, by go_num, rfl, rfl, HROW5, HE, HT, HSO, HLEN, HB5⟩
                case measure => simp [intOf]; omega
        · cases bm2 with
          | true =>
            have HTT := hide (unhide HT rfl)
            go_wp2
            all_goals
              go_roundg (2 * leftG l out2 + 1)
              case rel => exact ⟨out2, so2, cp2, true, rfl, rfl, hide rfl, HROW, HSO, hide (fun h => by cases h), HLEN, HB⟩
              case measure => have h1 := unhide HG; have h2 := unhide HTT; simp at h1; omega
          | false =>
            obtain ⟨hoo, hno⟩ := unhide HF rfl
            subst hoo
            have HALL : Hid (∀ j (hj : j < l.length), growB names out2 l[j] = false) := hide (fun j hj => hno j hj (by omega))
            clear hno HF HT
            go_wp2
            go_roundg (2 * leftG l out2)
            case rel => exact ⟨out2, so2, cp2, false, rfl, rfl, hide rfl, HROW, HSO, hide (fun _ => unhide HALL), HLEN, HB⟩
            case measure => have h1 := unhide HG; simp at h1; omega
end Go.Proofs.Ytgdeehldpmfpgaa
