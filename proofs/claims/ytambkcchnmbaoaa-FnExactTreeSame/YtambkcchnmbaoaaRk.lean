/- The walk of treeSameExprs. Conditions: no two lists of the first tree lie in one block; it has at most 2^20 expressions. -/
import Derived.Test.YtambkcchnmbaoaaRj
import Derived.Deep.LoopGhost
import Derived.Deep.RegionLaw
import Derived.Deep.AppendLies
import Derived.WalkSmall
namespace Go.Proofs.Ytambkcchnmbaoaa
open Go.RowKit Go.PlainAid
open Go.ChangeMaps (setBlock)

theorem row_below {W W' : World} {B : Nat} {e : TypeId} {k g n c m : Nat} {xs : List Value} (h : W.ownsRow B e k (.slice (some ⟨g, 0, none⟩) n c) m xs) (hb : Below W.heap.size W W') : W'.ownsRow B e k (.slice (some ⟨g, 0, none⟩) n c) m xs :=
  h.kept (gr_below hb none) (.inr (by simp [Value.ownBlock]))
theorem row_cap {W : World} {B : Nat} {e : TypeId} {k g n c : Nat} {xs : List Value} (h : W.ownsRow B e k (.slice (some ⟨g, 0, none⟩) n c) n xs) : n ≤ c ∧ c ≤ maxLen := by
  rcases h.2 with ⟨h0, _⟩ | ⟨g', cap', cur, hv, _, _, h1, h2, _⟩
  · cases h0
  · cases hv; exact ⟨h1, h2⟩
theorem good_equal {w : World} {lo' : Nat} {t : Pt} (g : GoodP w lo' t) (W : World) (hb : Below w.heap.size w W) : Calls Try.prog 58 #[.slice t.a t.ks.length t.cap, .slice t.a' t.ks'.length t.cap', .func (.func 59) #[] #[]] W fun r w' => r = .returned (.bool (partsL t.ks t.ks')) ∧ Below W.heap.size W w' :=
  equalParts_any t.lo lo' t.h t.h' t.a t.a' t.cap t.cap' t.ks t.ks' W ((g.1.kids g.2.1).kept hb hb.size) (g.2.2.2.kept hb hb.size) g.2.2.1
theorem IsE.open {w : World} {lo n h : Nat} {v : Value} {e : TE} (hE : IsE w lo n h v e) : ∃ (k m : Int) (nm md : ByteArray) (a : Option Addr) (cap : Nat), v = .agg #[.int .i64 k, .int .i64 m, .string nm, .string md, .slice a e.kids.length cap] ∧ IsKids (IsE w lo n (h - 1)) w lo n a e.kids := by
  cases h with
  | zero => exact hE.elim
  | succ h =>
    obtain ⟨k, m, nm, md, kids⟩ := e
    obtain ⟨a, cap, hv, _, hk⟩ := hE
    exact ⟨k, m, nm, md, a, cap, hv, hk⟩
theorem IsS.open' {w : World} {h lo n : Nat} {v : Value} {e : TE} (hE : IsS w h lo n v e) : ∃ (k m : Int) (nm md : ByteArray) (a : Option Addr) (cap : Nat), v = .agg #[.int .i64 k, .int .i64 m, .string nm, .string md, .slice a e.kids.length cap] ∧ e.kids.length ≤ maxLen ∧ IsSK (IsS w (h - 1)) w lo n a e.kids := by
  cases h with
  | zero => exact hE.elim
  | succ h =>
    obtain ⟨k, m, nm, md, kids⟩ := e
    obtain ⟨a, cap, hv, ⟨_, _, hz⟩, hk⟩ := hE
    exact ⟨k, m, nm, md, a, cap, hv, hz, hk⟩
/-- The next pair of kids, and where their lists lie. -/
theorem next_pair {w : World} {lo' : Nat} {l : List Pt} {ms : List Nat} {t : Pt} {b b' off' : Nat} {cut : Nat → Nat} (T : Top w lo' l ms t b cut)
    (C : ∀ j (hj : j < t.ks'.length), ∃ c0 c1 c2 c3 c4 : Value, w.cell? ⟨b', off' + j * 5, none⟩ = some c0 ∧ w.cell? ⟨b', off' + j * 5 + 1, none⟩ = some c1 ∧ w.cell? ⟨b', off' + j * 5 + 2, none⟩ = some c2 ∧ w.cell? ⟨b', off' + j * 5 + 3, none⟩ = some c3 ∧ w.cell? ⟨b', off' + j * 5 + 4, none⟩ = some c4 ∧ IsE w lo' w.heap.size t.h' (.agg #[c0, c1, c2, c3, c4]) t.ks'[j])
    {j : Nat} (hj : j < t.ks.length) (hj' : j < t.ks'.length) : ∃ x : Pt, GoodP w lo' x ∧ x.lo = cut j ∧ x.hi = cut (j + 1) ∧ w.cell? ⟨b, j * 5 + 4, none⟩ = some (.slice x.a x.ks.length x.cap) ∧ w.cell? ⟨b', off' + j * 5 + 4, none⟩ = some (.slice x.a' x.ks'.length x.cap') ∧ x.ks = t.ks[j].kids ∧ x.ks' = t.ks'[j].kids := by
  obtain ⟨c0, c1, c2, c3, c4, d0, d1, d2, d3, d4, hr⟩ := T.kid j hj
  obtain ⟨c0', c1', c2', c3', c4', d0', d1', d2', d3', d4', hr'⟩ := C j hj'
  obtain ⟨k, m, nm, md, sa, scap, hv, hz, hk⟩ := hr.open'
  obtain ⟨k', m', nm', md', sa', scap', hv', hk'⟩ := hr'.open
  simp only [Value.agg.injEq, Array.mk.injEq, List.cons.injEq, and_true] at hv hv'
  obtain ⟨rfl, rfl, rfl, rfl, rfl⟩ := hv
  obtain ⟨rfl, rfl, rfl, rfl, rfl⟩ := hv'
  have h1 := cut_mono T.mono (j + 1) t.ks.length (by omega) (Nat.le_refl _)
  exact ⟨⟨sa, scap, cut j, cut (j + 1), t.h - 1, t.ks[j].kids, sa', scap', t.h' - 1, t.ks'[j].kids⟩, ⟨hk.toW, Nat.le_trans h1 T.last, hz, hk'⟩, rfl, rfl, d4, d4', rfl, rfl⟩
/-- What holds while the kids of a pair are laid on the stack. -/
structure InI (w w5 : World) (lo' : Nat) (R : Bool) (l : List Pt) (ms : List Nat) (t : Pt) (b : Nat) (cut : Nat → Nat) (m g3 c3 j : Nat) (ex : List Pt) : Prop where
  own : w5.ownsRow (w.heap.size + 1) 101 2 (.slice (some ⟨g3, 0, none⟩) (m + j) c3) (m + j) (flatP (l ++ ex))
  ans : R = (allS (l ++ ex) && kidsB (t.ks.drop j) (t.ks'.drop j))
  sum : sumP (l ++ ex) + nodesL (t.ks.drop j) = sumP l + nodesL t.ks
  laid : Laid w lo' l (ms ++ [b]) cut j ex
  below : Below w.heap.size w w5
  met : MetP w5 w.heap.size (ms ++ [b])
theorem InI.room {w w5 : World} {lo' : Nat} {R : Bool} {l : List Pt} {ms : List Nat} {t : Pt} {b : Nat} {cut : Nat → Nat} {m g3 c3 j : Nat} {ex : List Pt} (I : InI w w5 lo' R l ms t b cut m g3 c3 j ex) (hm : l.length = m) (hs : sumP l + (1 + nodesL t.ks) ≤ 1048577) : m + j ≤ 1048577 := by
  have h1 := len_sumP (l ++ ex)
  rw [List.length_append, hm, I.laid.2.2] at h1
  have := I.sum
  omega
theorem InI.size {w w5 : World} {lo' : Nat} {R : Bool} {l : List Pt} {ms : List Nat} {t : Pt} {b : Nat} {cut : Nat → Nat} {m g3 c3 j : Nat} {ex : List Pt} (I : InI w w5 lo' R l ms t b cut m g3 c3 j ex) : w.heap.size + 1 ≤ w5.heap.size := I.met.lt
theorem InI.next {w w5 w6 : World} {lo' : Nat} {R : Bool} {l : List Pt} {ms : List Nat} {t x : Pt} {b : Nat} {cut : Nat → Nat} {m g3 c3 j g4 c4 : Nat} {ex : List Pt} (I : InI w w5 lo' R l ms t b cut m g3 c3 j ex) (T : Top w lo' l ms t b cut) (hj : j < t.ks.length) (hj' : j < t.ks'.length)
    (hx : GoodP w lo' x ∧ x.lo = cut j ∧ x.hi = cut (j + 1) ∧ x.ks = t.ks[j].kids ∧ x.ks' = t.ks'[j].kids)
    (hown : w6.ownsRow (w.heap.size + 1) 101 2 (.slice (some ⟨g4, 0, none⟩) (m + j + 1) c4) (m + j + 1) (flatP (l ++ ex) ++ [.slice x.a x.ks.length x.cap, .slice x.a' x.ks'.length x.cap'])) (hg : w5.grownBy w6 (some g3)) (hg3 : w.heap.size + 1 ≤ g3) : InI w w6 lo' R l ms t b cut m g4 c4 (j + 1) (ex ++ [x]) := by
  obtain ⟨h1, h2, h3, h4, h5⟩ := hx
  refine ⟨?_, ?_, ?_, laid_next T I.laid hj h2 h3 h1, I.below.grown hg (by have := I.size; omega) (fun k e => by simp at e; omega), I.met.kept (hg.block _ I.met.lt (by simp; omega))⟩
  · rw [← List.append_assoc, flatP_app (l ++ ex) [x]]; exact hown
  · rw [← List.append_assoc, allS_snoc, I.ans, kidsB_at _ _ j hj hj', h4, h5, Bool.and_assoc]
  · rw [← List.append_assoc, sumP_snoc, h4]
    have := I.sum
    rw [nodesL_at _ j hj] at this
    omega
theorem gr_drew {w w' : World} {o : Obj} {row : Option Nat} (h : (w.alloc o).drew.grownBy w' row) : w.grownBy w' row := gr_trans (World.grownBy_alloc w o row) ⟨h.os, h.tape, h.output, h.size, h.block⟩
theorem pinfo : (Try.prog.info? 101).map (fun i => (i.zero, i.size, i.bytes)) = some (some (.agg #[.slice none 0 0, .slice none 0 0]), 2, 48) := by kernel_rfl
set_option maxRecDepth 100000 in
set_option maxHeartbeats 4000000 in
theorem sameExprs_any (lo hi h lo' h' : Nat) (a a' : Option Addr) (cap cap' : Nat) (ks ks' : List TE) (w : World) (hk : IsSW w h lo hi a ks) (hhi : hi ≤ w.heap.size) (hk' : IsKids (IsE w lo' w.heap.size h') w lo' w.heap.size a' ks') (hl : ks.length ≤ maxLen) (hN : nodesL ks ≤ 1048576) :
    Calls Try.prog 48 #[.slice a ks.length cap, .slice a' ks'.length cap'] w fun r w' => r = .returned (.bool (sameL ks ks')) ∧ Below w.heap.size w w' := by
  obtain ⟨i0, hi0, hz0, hz1, hz2⟩ := info_parts pinfo
  have hmm := @run_makeMap Try.prog
  obtain ⟨R, hR⟩ : ∃ R, sameL ks ks' = R := ⟨_, rfl⟩
  rw [hR]
  obtain ⟨p, hp⟩ : ∃ p : Pt, p = ⟨a, cap, lo, hi, h, ks, a', cap', h', ks'⟩ := ⟨_, rfl⟩
  have HF0 : Hid (Fit w lo' [p] []) := hide (by
    refine ⟨fun q hq => ?_, List.pairwise_singleton _ _, fun m hm => by simp at hm⟩
    rw [List.mem_singleton] at hq
    subst hq; subst hp
    exact ⟨hk, hhi, hl, hk'⟩)
  have HR0 : Hid (R = allS [p]) := hide (by subst hp; simp [allS, hR])
  have HS0 : Hid (sumP [p] ≤ 1048577) := hide (by subst hp; simp [sumP]; omega)
  have HO0 : Hid (∀ W : World, w.heap.size + 1 ≤ W.heap.size → (W.alloc (.cells #[.slice a ks.length cap, .slice a' ks'.length cap'] 101)).ownsRow (w.heap.size + 1) 101 2 (.slice (some ⟨W.heap.size, 0, none⟩) 1 1) 1 (flatP [p])) := hide (fun W hW => by
    subst hp
    exact World.ownsRow_lit W #[.slice a ks.length cap, .slice a' ks'.length cap'] 1 hW (by decide) rfl)
  clear hR hp hk hk' hhi hl hN
  go_enter Try.func48, Try.ntmps48
  go_wp2_with fail
  go_loopg [6] (sumP [p]) (fun k o wr => ∃ (ps : List Pt) (ms : List Nat) (g c : Nat), o = .slice (some ⟨g, 0, none⟩) ps.length c ∧ ps.length ≤ 1048577 ∧ Hid (k = sumP ps ∧ sumP ps ≤ 1048577) ∧ Hid (wr.ownsRow (w.heap.size + 1) 101 2 o ps.length (flatP ps)) ∧ Hid (R = allS ps) ∧ Hid (Fit w lo' ps ms) ∧ Hid (Below w.heap.size w wr) ∧ Hid (MetP wr w.heap.size ms))
  case atStart =>
    refine ⟨[p], [], w.heap.size + 1, 1, rfl, by simp, hide ⟨rfl, unhide HS0⟩, hide ?_, HR0, HF0, hide (((Below.refl _ w).alloc (Nat.le_refl _) _).alloc (by simp) _), hide ?_⟩
    · have := unhide HO0 (w.alloc (.map #[] 0)) (by simp)
      rw [alloc_size] at this
      exact this
    · refine MetP.kept (w := w.alloc (.map #[] 0)) ⟨#[], 0, heap_alloc_new w _, fun x hx => by simp at hx⟩ (((Below.refl _ _).alloc (Nat.le_refl _) _).block _ (by simp))
  case round =>
    clear HO0 HR0 HF0 HS0 hmm
    obtain ⟨ps, ms, g, c, rfl, hlen, HK, HO, HX, HF, HB, HM⟩ := hrel
    rcases List.eq_nil_or_concat ps with rfl | ⟨l, t, rfl⟩
    · have HR : Hid (R = true) := HX
      rw [List.length_nil]
      go_wp2
      go_ret
      exact ⟨ret_bool (unhide HR).symm, unhide HB⟩
    rw [List.concat_eq_append] at hlen HK HO HX HF ⊢
    obtain ⟨m, hm⟩ : ∃ m, l.length = m := ⟨_, rfl⟩
    have hle : (l ++ [t]).length = m + 1 := by simp [hm]
    rw [hle] at hlen HO ⊢
    have HO1 : Hid (wr.ownsRow (w.heap.size + 1) 101 2 (.slice (some ⟨g, 0, none⟩) m c) m (flatP l)) := hide (by
      refine ownsRow_pop (last := flatP [t]) (by rw [flatP_len, hm]) ?_
      rw [← flatP_app]; exact unhide HO)
    have hfl := flatP_len l
    rw [hm] at hfl
    have d0 : wr.cell? ⟨g, m * 2, none⟩ = some (.slice t.a t.ks.length t.cap) := by
      rw [(unhide HO).cellAt (m * 2) (by omega), flatP_app, List.getElem?_append_right (by omega), hfl, Nat.sub_self]; rfl
    have d1 : wr.cell? ⟨g, m * 2 + 1, none⟩ = some (.slice t.a' t.ks'.length t.cap') := by
      rw [(unhide HO).cellAt (m * 2 + 1) (by omega), flatP_app, List.getElem?_append_right (by omega), hfl, Nat.add_sub_cancel_left]; rfl
    have HSUM : Hid (gk = sumP l + (1 + nodesL t.ks) ∧ sumP l + (1 + nodesL t.ks) ≤ 1048577) := hide (by
      have h1 := (unhide HK).1
      have h2 := (unhide HK).2
      rw [sumP_snoc] at h1 h2
      exact ⟨h1, h2⟩)
    have HX1 : Hid (R = (allS l && (partsL t.ks t.ks' && kidsB t.ks t.ks'))) := hide (by rw [unhide HX, allS_snoc, sameL_parts])
    have HG : Hid (GoodP w lo' t) := hide ((unhide HF).1 t (List.mem_append_right _ (List.mem_singleton.2 rfl)))
    have HEQ := hide (good_equal (unhide HG))
    have hkl : t.ks.length ≤ maxLen := (unhide HG).2.2.1
    unfold maxLen at hkl
    have hgz : g < wr.heap.size := ((unhide HO).lt g rfl).2
    have hcap : m + 1 ≤ c := (row_cap (unhide HO)).1
    have hcap' : c ≤ maxLen := (row_cap (unhide HO)).2
    unfold maxLen at hcap'
    have HGB : Hid (w.heap.size + 1 ≤ g) := hide ((unhide HO).lt g rfl).1
    have HML : Hid (l.length = m) := hide hm
    clear hle hfl HX HK HO hm
    go_wp2_with fail
    clear d0 d1
    refine (unhide HEQ _ ((unhide HB).alloc (unhide HB).size _)).mono ?_
    rintro r w1 ⟨rfl, hb1⟩
    have HB1 : Hid (Below w.heap.size w w1) := hide (((unhide HB).alloc (unhide HB).size _).trans (hb1.mono (by have := (unhide HB).size; simp; omega)))
    have hb2 : Below wr.heap.size wr w1 := ((Below.refl _ _).alloc (Nat.le_refl _) _).trans (hb1.mono (by simp))
    have HO2 := hide (row_below (unhide HO1) hb2)
    have HM1 : Hid (MetP w1 w.heap.size ms) := hide ((unhide HM).kept (hb2.block _ (unhide HM).lt))
    have hzz : wr.heap.size < w1.heap.size := by have := hb1.size; simp at this; omega
    have e0 : w1.cell? ⟨wr.heap.size, 0, none⟩ = some (.slice t.a t.ks.length t.cap) := (hb1.cell (p := ⟨wr.heap.size, 0, none⟩) (by simp)).trans (alloc_cell _ _ _ 0)
    have e1 : w1.cell? ⟨wr.heap.size, 1, none⟩ = some (.slice t.a' t.ks'.length t.cap') := (hb1.cell (p := ⟨wr.heap.size, 1, none⟩) (by simp)).trans (alloc_cell _ _ _ 1)
    clear hb1 hb2 HB HO1 HM HEQ
    cases hpt : partsL t.ks t.ks' with
    | false =>
      have HR : Hid (R = false) := hide (by rw [unhide HX1, hpt]; simp)
      go_wp2
      go_ret
      exact ⟨ret_bool (unhide HR).symm, unhide HB1⟩
    | true =>
    have hll := partsL_len _ _ hpt
    have HX2 : Hid (R = (allS l && kidsB t.ks t.ks')) := hide (by rw [unhide HX1, hpt]; rfl)
    clear hpt HX1
    by_cases hnil : t.ks = []
    · have HX3 : Hid (R = allS l) := hide (by
        have h2 : t.ks' = [] := List.eq_nil_of_length_eq_zero (by rw [← hll, hnil]; rfl)
        rw [unhide HX2, hnil, h2]; simp [kidsB])
      have hz : t.ks.length = 0 := by rw [hnil]; rfl
      rw [hz] at e0
      clear hll hnil HX2
      go_wp2
      go_roundg (sumP l)
      case measure => have := (unhide HSUM).1; omega
      case rel =>
        refine ⟨l, ms, g, c, by rw [unhide HML], by rw [unhide HML]; omega, hide ⟨rfl, by have := (unhide HSUM).2; omega⟩, hide ?_, HX3, hide (fit_pop (unhide HF)), HB1, HM1⟩
        rw [unhide HML]; exact unhide HO2
    obtain ⟨b, cut, hT⟩ := fit_top (unhide HF) hnil
    have HT := hide hT
    have hpos : 0 < t.ks.length := List.length_pos_iff.2 hnil
    have hpos' : 0 < t.ks'.length := by omega
    obtain ⟨b', off', ha', hbl', hbn', hcs'⟩ : ∃ b' off' : Nat, t.a' = some ⟨b', off', none⟩ ∧ lo' ≤ b' ∧ b' < w.heap.size ∧ ∀ j (hj : j < t.ks'.length), ∃ c0 c1 c2 c3 c4 : Value, w.cell? ⟨b', off' + j * 5, none⟩ = some c0 ∧ w.cell? ⟨b', off' + j * 5 + 1, none⟩ = some c1 ∧ w.cell? ⟨b', off' + j * 5 + 2, none⟩ = some c2 ∧ w.cell? ⟨b', off' + j * 5 + 3, none⟩ = some c3 ∧ w.cell? ⟨b', off' + j * 5 + 4, none⟩ = some c4 ∧ IsE w lo' w.heap.size t.h' (.agg #[c0, c1, c2, c3, c4]) t.ks'[j] := by
      rcases (unhide HG).2.2.2 with h | h
      · rw [h] at hpos'; simp at hpos'
      · exact h
    rw [hT.at_] at e0
    rw [ha'] at e1
    have HCS := hide hcs'
    have HLL := hide hll
    obtain ⟨n, hn⟩ : ∃ n, t.ks.length = n := ⟨_, rfl⟩
    rw [← hll, hn] at e1
    rw [hn] at e0 hkl hpos
    have hn0 : ((n : Int) == 0) = false := by simp; omega
    have HN := hide hn
    clear hT hnil hcs' hpos' hbl' ha' hll hn
    have HBN := hide hbn'
    clear hbn'
    go_wp2_with fail
    go_region
    obtain ⟨P, hP⟩ : ∃ P, wr.heap.size = P := ⟨_, rfl⟩
    obtain ⟨w2, hw2⟩ : ∃ w2, w2 = (w1.alloc (.cells #[.pointer (some ⟨b, 0, none⟩), .int .i64 (n : Int), .pointer (some ⟨b', off', none⟩), .int .i64 (n : Int)] 107)).drew := ⟨_, rfl⟩
    rw [← hw2, hP]
    rw [hP] at e0 e1 hzz hgz
    have hb2 : Below w1.heap.size w1 w2 := by rw [hw2]; exact ((Below.refl _ _).alloc (Nat.le_refl _) _).drew
    have q0 : w2.cell? ⟨w1.heap.size, 0, none⟩ = some (.pointer (some ⟨b, 0, none⟩)) := by rw [hw2]; exact alloc_cell w1 _ _ 0
    have q1 : w2.cell? ⟨w1.heap.size, 1, none⟩ = some (.int .i64 (n : Int)) := by rw [hw2]; exact alloc_cell w1 _ _ 1
    have q2 : w2.cell? ⟨w1.heap.size, 2, none⟩ = some (.pointer (some ⟨b', off', none⟩)) := by rw [hw2]; exact alloc_cell w1 _ _ 2
    have q3 : w2.cell? ⟨w1.heap.size, 3, none⟩ = some (.int .i64 (n : Int)) := by rw [hw2]; exact alloc_cell w1 _ _ 3
    have hw12 : w1.heap.size < w2.heap.size := by rw [hw2]; show _ < (w1.alloc _).heap.size; simp
    have HB2 : Hid (Below w.heap.size w w2) := hide ((unhide HB1).trans (hb2.mono (unhide HB1).size))
    have hM2 : MetP w2 w.heap.size ms := (unhide HM1).kept (hb2.block _ (unhide HM1).lt)
    have hpl : ∀ W, Below w.heap.size w W → ∀ x, Plainly w x → Plainly W x := fun W hW x hx => plain_mono hx (hW.block x (plain_lt hx))
    have hlook : (Instr.lookup 99 (.map (some w.heap.size)) (pairV b n (some ⟨b', off', none⟩) n) true).run Try.prog w2 = .ok (.tuple #[.agg #[], .bool false]) w2 := metP_look hM2 (hpl _ (unhide HB2) _ (unhide HT).plain) (fun x hx => ⟨((unhide HT).new x hx).1, hpl _ (unhide HB2) _ ((unhide HT).new x hx).2⟩)
    have HB3 : Hid (Below w.heap.size w (w2.alloc (.cells #[] 108))) := hide ((unhide HB2).alloc (unhide HB2).size _)
    obtain ⟨w3, hput, hM3, hg3⟩ := metP_put (w := w2.alloc (.cells #[] 108)) (q := w.heap.size) (b := b) (n := n) (p := some ⟨b', off', none⟩) (n' := n) (ms := ms) (hM2.kept (((Below.refl _ _).alloc (Nat.le_refl _) _).block _ hM2.lt)) (hpl _ (unhide HB3) _ (unhide HT).plain) (fun x hx => ⟨((unhide HT).new x hx).1, hpl _ (unhide HB3) _ ((unhide HT).new x hx).2⟩)
    have hb4 : Below w1.heap.size w1 (w2.alloc (.cells #[] 108)) := hb2.alloc hb2.size _
    have hqP : w.heap.size < P := by have := (unhide HGB); omega
    have HB4 : Hid (Below w.heap.size w w3) := hide ((unhide HB3).grown hg3 (unhide HB3).size (fun k e => by simp at e; omega))
    have HM4 := hide hM3
    have HO4 : Hid (w3.ownsRow (w.heap.size + 1) 101 2 (.slice (some ⟨g, 0, none⟩) m c) m (flatP l)) := hide ((row_below (unhide HO2) hb4).kept hg3 (.inr (by have := unhide HGB; simp [Value.ownBlock]; omega)))
    have e0' := (hb2.cell (p := ⟨P, 0, none⟩) hzz).trans e0
    have e1' := (hb2.cell (p := ⟨P, 1, none⟩) hzz).trans e1
    have i0' : w3.cell? ⟨P, 0, none⟩ = some (.slice (some ⟨b, 0, none⟩) n t.cap) := hg3.cell ((hb4.cell (p := ⟨P, 0, none⟩) hzz).trans e0) (by simp; omega)
    have i1' : w3.cell? ⟨P, 1, none⟩ = some (.slice (some ⟨b', off', none⟩) n t.cap') := hg3.cell ((hb4.cell (p := ⟨P, 1, none⟩) hzz).trans e1) (by simp; omega)
    have hz3 : P < w3.heap.size := by have := hg3.size; have := hb4.size; omega
    have hgP : g ≠ P := by omega
    clear hw2 hP hb2 hb4 hM2 hM3 hg3 hpl HB1 HB2 HB3 HM1 HO2 e0 e1 hqP
    go_wp2_with fail
    clear q0 q1 q2 q3 hlook hput e0' e1' hw12 hzz
    have HI0 : Hid (InI w w3 lo' R l ms t b cut m g c 0 []) := hide ⟨by rw [List.append_nil]; exact unhide HO4, by rw [List.append_nil]; exact unhide HX2, by rw [List.append_nil]; rfl, laid_start (unhide HT), unhide HB4, unhide HM4⟩
    clear HO4 HX2 HB4 HM4
    go_loopg [6, 69] n (fun gq v jj w5 => ∃ (j g3 c3 : Nat) (ex : List Pt), j ≤ n ∧ Hid (gq + j = n) ∧ jj = .int .i64 j ∧ v = .slice (some ⟨g3, 0, none⟩) (m + j) c3 ∧ g3 ≠ P ∧ P < w5.heap.size ∧ w5.cell? ⟨P, 0, none⟩ = some (.slice (some ⟨b, 0, none⟩) n t.cap) ∧ w5.cell? ⟨P, 1, none⟩ = some (.slice (some ⟨b', off', none⟩) n t.cap') ∧ Hid (InI w w5 lo' R l ms t b cut m g3 c3 j ex))
    case atStart => exact ⟨0, g, c, [], Nat.zero_le _, hide rfl, rfl, rfl, hgP, hz3, i0', i1', HI0⟩
    case round =>
      clear HI0 i0' i1' hz3 hgP hcap hcap' hgz
      obtain ⟨j, g3, c3, ex, hj, HGQ, rfl, rfl, hgP, hz3, i0', i1', HI⟩ := hrel
      by_cases hjn : j < n
      · obtain ⟨x, hgood, hxl, hxh, k4, k4', hx1, hx2⟩ := next_pair (unhide HT) (unhide HCS) (j := j) (by rw [unhide HN]; exact hjn) (by rw [← unhide HLL, unhide HN]; exact hjn)
        have HXX := hide (And.intro hgood (And.intro hxl (And.intro hxh (And.intro hx1 hx2))))
        have hbz : b < w.heap.size := plain_lt (unhide HT).plain
        have k5 : wr.cell? ⟨b, j * 5 + 4, none⟩ = some (.slice x.a x.ks.length x.cap) := ((unhide HI).below.cell (p := ⟨b, j * 5 + 4, none⟩) hbz).trans k4
        have k5' : wr.cell? ⟨b', off' + j * 5 + 4, none⟩ = some (.slice x.a' x.ks'.length x.cap') := ((unhide HI).below.cell (p := ⟨b', off' + j * 5 + 4, none⟩) (unhide HBN)).trans k4'
        have hmj : m + j ≤ 1048577 := (unhide HI).room (unhide HML) (unhide HSUM).2
        have hwz : w.heap.size + 1 ≤ wr.heap.size := (unhide HI).size
        have HOW : Hid (wr.ownsRow (w.heap.size + 1) 101 2 (.slice (some ⟨g3, 0, none⟩) (m + j) c3) (m + j) (flatP (l ++ ex))) := hide (unhide HI).own
        clear hgood hxl hxh hx1 hx2 k4 k4' hbz
        go_wp2_with fail
        go_region_law (refine step_append_lies _ rfl (.tmp 72) (.tmp 86) 102 rfl (w.heap.size + 1) 101 i0 (.agg #[.slice none 0 0, .slice none 0 0]) 2 48 Try.underlying102 hi0 hz0 hz1 hz2 rfl (by decide) (.slice (some ⟨g3, 0, none⟩) (m + j) c3) (m + j) (flatP (l ++ ex)) rfl ((unhide HOW).alloc _) ⟨wr.heap.size, 0, none⟩ 1 1 [.slice x.a x.ks.length x.cap, .slice x.a' x.ks'.length x.cap'] rfl rfl (World.news_of_block (heap_alloc_new wr _)) (by simp [Value.oneCell']) (by decide) (by unfold maxLen; omega) (by omega) (by have := hwz; simp; omega) (wr.heap.size + 1) (by simp) ?_; intro g4 c4 w4 hown4 hgrow4 hat4 hlt4)
        all_goals (
          have hgr : wr.grownBy w4 (some g3) := gr_drew hgrow4
          have hg4 : g4 ≠ P := by
            rcases hat4 with h | h
            · simp [Value.ownBlock] at h; omega
            · omega
          have hI := (unhide HI).next (unhide HT) (by rw [unhide HN]; exact hjn) (by rw [← unhide HLL, unhide HN]; exact hjn) (unhide HXX) hown4 hgr ((unhide HOW).lt g3 rfl).1
          have HI2 := hide hI
          have z4 : P < w4.heap.size := by have := hgr.size; omega
          have j0 : w4.cell? ⟨P, 0, none⟩ = some (.slice (some ⟨b, 0, none⟩) n t.cap) := hgr.cell i0' (by simp; omega)
          have j1 : w4.cell? ⟨P, 1, none⟩ = some (.slice (some ⟨b', off', none⟩) n t.cap') := hgr.cell i1' (by simp; omega)
          clear hI hgr hown4 hgrow4 hat4 HOW HXX HI k5 k5' i0' i1'
          go_wp2
          go_roundg (n - (j + 1))
          case measure => have := unhide HGQ; omega
          case rel => exact ⟨j + 1, g4, c4, ex ++ [x], by omega, hide (by omega), by go_num, rfl, hg4, z4, j0, j1, HI2⟩)
      · have hje : j = n := by omega
        subst hje
        have HEND : Hid (sumP (l ++ ex) = sumP l + nodesL t.ks ∧ R = allS (l ++ ex) ∧ (l ++ ex).length = m + j) := hide (by
          have h1 : t.ks.drop j = [] := List.drop_of_length_le (by rw [unhide HN]; exact Nat.le_refl _)
          have h2 : t.ks'.drop j = [] := List.drop_of_length_le (by rw [← unhide HLL, unhide HN]; exact Nat.le_refl _)
          have h3 := (unhide HI).sum
          have h4 := (unhide HI).ans
          rw [h1] at h3 h4
          rw [h2] at h4
          refine ⟨by simpa [nodesL] using h3, by simpa [kidsB] using h4, by rw [List.length_append, (unhide HI).laid.2.2, unhide HML]⟩)
        have hmj : m + j ≤ 1048577 := (unhide HI).room (unhide HML) (unhide HSUM).2
        go_wp2
        go_roundg (sumP (l ++ ex))
        case measure => have := (unhide HEND).1; have := (unhide HSUM).1; omega
        case rel =>
          refine ⟨l ++ ex, ms ++ [b], g3, c3, by rw [(unhide HEND).2.2], by rw [(unhide HEND).2.2]; exact hmj, hide ⟨rfl, by have := (unhide HEND).1; have := (unhide HSUM).2; omega⟩, hide ?_, hide (unhide HEND).2.1, hide (unhide HI).laid.1, hide (unhide HI).below, hide (unhide HI).met⟩
          rw [(unhide HEND).2.2]; exact (unhide HI).own
end Go.Proofs.Ytambkcchnmbaoaa
