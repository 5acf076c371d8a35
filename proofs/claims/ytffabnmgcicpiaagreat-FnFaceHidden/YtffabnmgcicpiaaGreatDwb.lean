/- The walk of l22Bend. Conditions: what is handed in can be read, and stays. -/
import Derived.Test.YtffabnmgcicpiaaGreatDwa
import Derived.Deep.DeepMust
import Derived.Deep.CutRange
namespace Go.Proofs.YtffabnmgcicpiaaGreat
open Go.RowKit Go.PlainAid

set_option maxRecDepth 100000 in
set_option maxHeartbeats 16000000 in
theorem l22Bend_any (h : Nat) (S : Nat → Prop) (B : Nat) (a : Option Addr) (len cap : Nat) (v : Value) (m : TM) (w0 : World) (p : Nat) (hrd : IsRd w0 B a len cap p) (hB : B < w0.heap.size) (hp : p + 10 * h + 1000 ≤ 600000000000) (hSB : ∀ b, S b → b ≠ B ∧ b < w0.heap.size) (hM : KpD S w0 (fun W => IsMod W 0 W.heap.size h v m)) (hwt : m.wt ≤ 40000) (hh : h ≤ 998) :
    Calls Tryz.prog 25 #[.pointer (some ⟨B, 0, none⟩), v] w0 fun r w' => ∃ (v' : Value) (m' : TM) (q : Nat), r = .returned v' ∧ KpD (fun b => S b ∨ w0.heap.size ≤ b) w' (fun W => IsMod W 0 W.heap.size (h + 2) v' m') ∧ m'.wt ≤ 90000 ∧ RdM B a len cap (5 * h + 20) w0 w' p q := by
  obtain ⟨us, fs, mn⟩ := m
  obtain ⟨a1, a2, a3, k1, k2, k3, hv0, ⟨z1, z2, z3, z4, z5⟩, -, -, -⟩ := hM.now
  dsimp only at hv0 z1 z2 z3 z4 z5
  have hparts : ∀ W, StayD S w0 W → IsWds W 0 W.heap.size a1 us ∧ IsFuns (IsFun W 0 W.heap.size h) W 0 W.heap.size a2 fs ∧ IsKids (IsE W 0 W.heap.size h) W 0 W.heap.size a3 mn := fun W hW => by
    obtain ⟨b1, b2, b3, c1, c2, c3, hv, -, q1, q2, q3⟩ := hM W hW
    rw [hv0] at hv
    simp only [Value.agg.injEq, Array.mk.injEq, List.cons.injEq, Value.slice.injEq, and_true, true_and] at hv
    obtain ⟨⟨rfl, rfl⟩, ⟨rfl, rfl⟩, rfl, rfl⟩ := hv
    exact ⟨q1, q2, q3⟩
  subst hv0
  have e0 := wt_eqM us fs mn
  rw [e0] at hwt
  obtain ⟨W2, hW2⟩ : ∃ W2, W2 = (w0.alloc (.cells #[.slice a1 us.length k1, .slice a2 fs.length k2, .slice a3 mn.length k3] 27)).alloc (.cells #[.slice none 0 0, .slice none 0 0, .slice none 0 0] 27) := ⟨_, rfl⟩
  have hz2 : W2.heap.size = w0.heap.size + 2 := by rw [hW2]; simp
  have hE2 : Blk W2 w0.heap.size [.slice a1 us.length k1, .slice a2 fs.length k2, .slice a3 mn.length k3] := by rw [hW2]; exact (Blk.new w0 [.slice a1 us.length k1, .slice a2 fs.length k2, .slice a3 mn.length k3] 27).old _ (by simp)
  have hR2 : Blk W2 (w0.heap.size + 1) nil3 := by
    have := Blk.new (w0.alloc (.cells #[.slice a1 us.length k1, .slice a2 fs.length k2, .slice a3 mn.length k3] 27)) [.slice none 0 0, .slice none 0 0, .slice none 0 0] 27
    rw [alloc_size] at this
    rw [hW2]; exact this
  have hd2 : RdM B a len cap 0 w0 W2 p p := by rw [hW2]; exact ((RdM.refl hrd).alloc hB _).alloc hB _
  have hst2 : StayD S w0 W2 := hd2.mv.stay (fun b hb => (hSB b hb).1)
  have hf2 : KpD S W2 (fun W => IsFuns (IsFun W 0 W.heap.size h) W 0 W.heap.size a2 fs) := fun W hW => (hparts W (hst2.trans hW)).2.1
  obtain ⟨g, c7, w7, ps, hpf, r7, o7, d7, b7⟩ := copyFn hf2 k2 (by omega) hd2 hB
  have hgl := o7.row.lt g rfl
  have hee := hE2.below b7 (by omega)
  have hrr := hR2.below b7 (by omega)
  obtain ⟨W8, hW8⟩ : ∃ W8, W8 = w7.setCell ⟨w0.heap.size, 1, none⟩ (.slice (some ⟨g, 0, none⟩) fs.length c7) := ⟨_, rfl⟩
  have hs8 : W8.heap.size = w7.heap.size := by rw [hW8]; simp [World.setCell]
  rw [hz2] at o7
  have hst8 : StayD (fun b => S b ∨ w0.heap.size + 2 ≤ b) w7 W8 := by rw [hW8]; exact (StayD.refl _ w7).set w0.heap.size 1 _ (fun _ h => by
    rcases h with h | h
    · have := (hSB _ h).2; omega
    · omega)
  have d8 : RdM B a len cap 0 w0 W8 p p := by rw [hW8]; exact d7.set hB w0.heap.size 1 _ (Nat.le_refl _)
  have hst08 : StayD S w0 W8 := d8.mv.stay (fun b hb => (hSB b hb).1)
  have hb7 := b7.size
  have s8 : BS S h B a len cap w0 W8 0 p p a1 k1 us g c7 ps fs a3 k3 mn := ⟨d8, by rw [hW8]; exact hee.set 1 _ (by simp), by rw [hW8]; exact hrr.other w0.heap.size 1 _ (by omega), o7.staySub hst8 (fun x hx => .inr (o7.row.lt x hx).1), hpf, fun W hW => (hparts W (hst08.trans hW)).1, fun W hW => (hparts W (hst08.trans hW)).2.2, by omega, ⟨by omega, by omega⟩, hSB, hB⟩
  have HPK := hide (pick_rd B a len cap p 8 W8 d8.rd (by omega) (by omega))
  have c4' : (W2.alloc (.cells #[] 33)).cell? ⟨w0.heap.size, 1, none⟩ = some (.slice a2 fs.length k2) := ((below_one W2 _).cell (p := ⟨w0.heap.size, 1, none⟩) (by show w0.heap.size < _; omega)).trans (hE2.cellAt (i := 1) rfl)
  have f4 := hee.cellAt (i := 1) rfl
  have g4 := hee.2 1
  have HS8 := hide s8
  have HWT := hide hwt
  have HH := hide (And.intro hp (And.intro hh (And.intro z5 z4)))
  have HZ2 := hide hz2
  clear hM hparts hrd hB hp hSB z1 z2 z3 z4 z5 e0 hz2 hE2 hR2 hd2 hst2 hf2 hpf o7 d7 b7 hgl hee hrr hs8 hst8 d8 hst08 hb7 s8 hwt hh
  go_enter Tryz.func25, Tryz.ntmps25
  go_upto_region 1 with fail
  rw [← hW2]
  clear hW2
  go_upto_region 2 with (at_builtin; refine wpList_runD rfl (.tmp 6) (.tmp 8) 24 rfl rfl (.slice (some ⟨W2.heap.size, 0, none⟩) 0 0) (.slice a2 fs.length k2) rfl rfl (.slice (some ⟨g, 0, none⟩) fs.length c7) w7 r7 ?_)
  rw [← hW8]
  clear hW8 c4' f4 g4 r7
  go_upto_region 6 with (go_at_call 24; refine (unhide HPK).mono ?_; rintro r w9 ⟨i8, rfl, j0, j1, hk9, -⟩; have HK9 := hide hk9; clear hk9)
  have j2 := j1 (by omega)
  have HS9 : Hid (BS S h B a len cap w0 w9 1 p (p + 1) a1 k1 us g c7 ps fs a3 k3 mn) := hide ((unhide HS8).next (unhide HK9))
  have h8 : i8 = 0 ∨ i8 = 1 ∨ i8 = 2 ∨ i8 = 3 ∨ i8 = 4 ∨ 5 ≤ i8 := by omega
  clear j0 j1 j2 HPK HS8 HK9
  have x0 := (unhide HS9).e.cellAt (i := 0) rfl
  have x1 := (unhide HS9).e.cellAt (i := 1) rfl
  have x2 := (unhide HS9).e.cellAt (i := 2) rfl
  rcases h8 with rfl | rfl | rfl | rfl | rfl | h5
  · have hg := (unhide HS9).gl
    have hsz := (unhide HS9).sz
    have hwt := unhide HWT
    obtain ⟨gk, ck, wk, rk, ok, dk, bk⟩ := copyW (unhide HS9).u k1 (by omega) (unhide HH).2.2.2 (unhide HS9).rd (unhide HS9).hb
    have sk := (unhide HS9).below bk
    have hgk := ok.row.lt gk rfl
    have x0' : (w9.alloc (.cells #[] 9)).cell? ⟨w0.heap.size, 0, none⟩ = some (.slice a1 us.length k1) := ((below_one w9 _).cell (p := ⟨w0.heap.size, 0, none⟩) (by show w0.heap.size < _; omega)).trans x0
    have HSK := hide sk
    have HOK := hide ok
    have HGK := hide hgk
    have HBK := hide bk
    clear hg hsz hwt ok dk bk sk hgk
    obtain ⟨wl, hwl⟩ : ∃ wl, wl = wk.alloc (.cells #[.string ⟨#[108, 105, 98]⟩, .string ⟨#[110, 111, 110, 101]⟩, .string ⟨#[65]⟩, .string ⟨#[99, 111, 114, 101]⟩] 9) := ⟨_, rfl⟩
    have HSL : Hid (BS S h B a len cap w0 wl 1 p (p + 1) a1 k1 us g c7 ps fs a3 k3 mn) := hide (by rw [hwl]; exact (unhide HSK).below (below_one wk _))
    have HLW : Hid (wk.heap.size < wl.heap.size ∧ w9.heap.size ≤ wk.heap.size ∧ Below wk.heap.size wk wl) := hide (by
      have h1 := (unhide HGK).1
      have h2 := (unhide HGK).2
      exact ⟨by rw [hwl]; simp, by omega, by rw [hwl]; exact below_one wk _⟩)
    have HOF := hide (of_abs B wk.heap.size 4 4 nmB a len cap (p + 1) wl (unhide HSL).rd.rd (by have := (unhide HH).1; omega) (by have := (unhide HS9).hb; have := (unhide HS9).sz; have := (unhide HLW).2.1; omega) (by omega) (by omega) (by rw [hwl]; exact words_new wk 4 nmB _ (fun j hj => by
      have h4 : j = 0 ∨ j = 1 ∨ j = 2 ∨ j = 3 := by omega
      rcases h4 with rfl | rfl | rfl | rfl <;> rfl)))
    go_upto_region 19 with (first
      | (at_builtin; refine wpList_runD rfl (.tmp 37) (.tmp 39) 23 rfl rfl (.slice (some ⟨w9.heap.size, 0, none⟩) 0 0) (.slice a1 us.length k1) rfl rfl (.slice (some ⟨gk, 0, none⟩) us.length ck) wk rk ?_)
      | (go_at_call 38; rw [← hwl]; refine (unhide HOF).mono ?_; rintro r w10 ⟨jn, hjn, rfl, hrd10, hmv10⟩; obtain ⟨gn, cn, wn, rn, yn, zn, sn⟩ := oneMoreW (unhide HS9) (unhide HOK) (unhide HBK) (unhide HLW).2.2 (by omega) (by rw [wt_eqM]; exact unhide HWT) (nmB jn) (nmB_size jn) hrd10 hmv10.g; have HSN := hide sn; clear hrd10 hmv10 sn)
      | (at_builtin; refine wpList_runD rfl (.tmp 40) (.tmp 44) 23 rfl rfl (.slice (some ⟨gk, 0, none⟩) us.length ck) (.slice (some ⟨w10.heap.size, 0, none⟩) 1 1) rfl rfl (.slice (some ⟨gn, 0, none⟩) (us.length + 1) cn) wn rn ?_))
    have HBR := HSN
    clear HSN yn zn rn rk x0' x0 x1 x2
    obtain ⟨W12, hW12⟩ : ∃ W12, W12 = wn.setCell ⟨w0.heap.size, 0, none⟩ (.slice (some ⟨gn, 0, none⟩) (us.length + 1) cn) := ⟨_, rfl⟩
    rw [← hW12] at HBR ⊢
    clear hW12
    obtain ⟨y1, y2, y3, l1, q1, l2, q2, l3, q3, s0, s1, s2, t0, t1, t2, f0, f1, f2, hfin⟩ := (unhide HBR).fin (unhide HS9).hb (unhide HS9).sb
    have HFIN := hide hfin
    clear hfin
    go_wp2
    obtain ⟨F, hF⟩ : ∃ F, F = ((W12.setCell ⟨w0.heap.size + 1, 0, none⟩ (.slice y1 l1 q1)).setCell ⟨w0.heap.size + 1, 1, none⟩ (.slice y2 l2 q2)).setCell ⟨w0.heap.size + 1, 2, none⟩ (.slice y3 l3 q3) := ⟨_, rfl⟩
    obtain ⟨g0, g1, g2, m', q', hm, hw, hr⟩ := unhide HFIN F hF
    rw [← hF]
    refine bodyPost_ret (v := .agg #[.slice y1 l1 q1, .slice y2 l2 q2, .slice y3 l3 q3]) (by simp [results, Tryz.results25, go_sem, g0, g1, g2]) rfl ?_
    first | exact ⟨_, m', q', rfl, hm, hw, hr⟩ | exact ⟨_, rfl, m', hm, hw, q', hr⟩
  · have hg := (unhide HS9).gl
    have hsz := (unhide HS9).sz
    have hwt := unhide HWT
    obtain ⟨gk, ck, wk, es, hef, rk, ok, dk, bk⟩ := copyK (unhide HS9).m k3 (by omega) (unhide HS9).rd (unhide HS9).hb
    have sk := (unhide HS9).below bk
    have hgk := ok.row.lt gk rfl
    have hel : es.length = mn.length := by rw [← hef, List.length_map]
    have x2' : (w9.alloc (.cells #[] 31)).cell? ⟨w0.heap.size, 2, none⟩ = some (.slice a3 mn.length k3) := ((below_one w9 _).cell (p := ⟨w0.heap.size, 2, none⟩) (by show w0.heap.size < _; omega)).trans x2
    have HSK := hide sk
    have HOK := hide ok
    have HEF := hide (And.intro hef (And.intro hel hgk))
    have HBK := hide bk
    clear hg hsz hwt hef ok dk bk sk hgk hel
    go_upto_region 19 with (first
      | (at_builtin; refine wpList_runD rfl (.tmp 49) (.tmp 51) 25 rfl rfl (.slice (some ⟨w9.heap.size, 0, none⟩) 0 0) (.slice a3 mn.length k3) rfl rfl (.slice (some ⟨gk, 0, none⟩) mn.length ck) wk rk ?_)
      | (go_at_call 39; refine (l22NumE_any _ _).mono ?_; rintro r w10 ⟨rfl, hb10⟩; obtain ⟨gn, cn, wn, rn, yn, zn, sn⟩ := oneMoreK (unhide HS9) (unhide HOK) (unhide HEF).1 (unhide HBK) (by omega) (by rw [wt_eqM]; exact unhide HWT) (unhide HH).2.2.1 1 hb10; have HSN := hide sn; clear hb10 sn)
      | (at_builtin; refine wpList_runD rfl (.tmp 52) (.tmp 54) 25 rfl rfl (.slice (some ⟨gk, 0, none⟩) mn.length ck) (.slice (some ⟨w10.heap.size, 0, none⟩) 1 1) rfl rfl (.slice (some ⟨gn, 0, none⟩) (mn.length + 1) cn) wn rn ?_))
    have HBR := HSN
    clear HSN yn zn rn rk x2' x0 x1 x2
    obtain ⟨W12, hW12⟩ : ∃ W12, W12 = wn.setCell ⟨w0.heap.size, 2, none⟩ (.slice (some ⟨gn, 0, none⟩) (mn.length + 1) cn) := ⟨_, rfl⟩
    rw [← hW12] at HBR ⊢
    clear hW12
    obtain ⟨y1, y2, y3, l1, q1, l2, q2, l3, q3, s0, s1, s2, t0, t1, t2, f0, f1, f2, hfin⟩ := (unhide HBR).fin (unhide HS9).hb (unhide HS9).sb
    have HFIN := hide hfin
    clear hfin
    go_wp2
    obtain ⟨F, hF⟩ : ∃ F, F = ((W12.setCell ⟨w0.heap.size + 1, 0, none⟩ (.slice y1 l1 q1)).setCell ⟨w0.heap.size + 1, 1, none⟩ (.slice y2 l2 q2)).setCell ⟨w0.heap.size + 1, 2, none⟩ (.slice y3 l3 q3) := ⟨_, rfl⟩
    obtain ⟨g0, g1, g2, m', q', hm, hw, hr⟩ := unhide HFIN F hF
    rw [← hF]
    refine bodyPost_ret (v := .agg #[.slice y1 l1 q1, .slice y2 l2 q2, .slice y3 l3 q3]) (by simp [results, Tryz.results25, go_sem, g0, g1, g2]) rfl ?_
    first | exact ⟨_, m', q', rfl, hm, hw, hr⟩ | exact ⟨_, rfl, m', hm, hw, q', hr⟩
  · by_cases h0 : fs.length = 0
    · have hng : ¬ (0 : Int) < (fs.length : Int) := by omega
      clear h0
      have HBR := hide ((unhide HS9).done (by omega) (by rw [wt_eqM]; exact unhide HWT) (unhide HH).2.2.1)
      go_upto_region 19 with fail
      clear x0 x1 x2
      obtain ⟨y1, y2, y3, l1, q1, l2, q2, l3, q3, s0, s1, s2, t0, t1, t2, f0, f1, f2, hfin⟩ := (unhide HBR).fin (unhide HS9).hb (unhide HS9).sb
      have HFIN := hide hfin
      clear hfin
      go_wp2
      obtain ⟨F, hF⟩ : ∃ F, F = ((w9.setCell ⟨w0.heap.size + 1, 0, none⟩ (.slice y1 l1 q1)).setCell ⟨w0.heap.size + 1, 1, none⟩ (.slice y2 l2 q2)).setCell ⟨w0.heap.size + 1, 2, none⟩ (.slice y3 l3 q3) := ⟨_, rfl⟩
      obtain ⟨g0, g1, g2, m', q', hm, hw, hr⟩ := unhide HFIN F hF
      rw [← hF]
      refine bodyPost_ret (v := .agg #[.slice y1 l1 q1, .slice y2 l2 q2, .slice y3 l3 q3]) (by simp [results, Tryz.results25, go_sem, g0, g1, g2]) rfl ?_
      first | exact ⟨_, m', q', rfl, hm, hw, hr⟩ | exact ⟨_, rfl, m', hm, hw, q', hr⟩
    · have hng : (0 : Int) < (fs.length : Int) := by omega
      have hnn : 0 < fs.length := by omega
      clear h0
      have hjl : 0 < ps.length := by rw [(unhide HS9).len]; exact hnn
      have hg := (unhide HS9).gl
      have hsz := (unhide HS9).sz
      have hb0 := (unhide HS9).hb
      have hnb : w0.heap.size ≠ B := by omega
      have hgb : g ≠ B := by omega
      have hsz' : w0.heap.size < w9.heap.size := by omega
      obtain ⟨c0, c1, c2, c3, c4, c5, c6, c8, c9, hC⟩ := (unhide HS9).o.nine 0 hjl
      have hel := (unhide HS9).o.els _ (List.getElem_mem hjl)
      obtain ⟨d0, d1, d2, d3, d4, d5, d6, d7, d8, hC2, hxe⟩ := hel.now
      rw [hC] at hC2
      simp only [List.cons.injEq, and_true] at hC2
      obtain ⟨rfl, rfl, rfl, rfl, rfl, rfl, rfl, rfl, rfl⟩ := hC2
      obtain ⟨en, ep, ea, el, ec, et, ek, em, eo, ed, eb, ef, eg, rfl, rfl, rfl, rfl, rfl, rfl, rfl, rfl, rfl⟩ := IsFun.form h hxe
      have hk3 : w9.cell? ⟨g, 3, none⟩ = some (.int .i64 et) := by
        have := (unhide HS9).o.cell 0 hjl 3 (by omega)
        rw [Nat.zero_mul, Nat.zero_add, hC] at this
        exact this
      have hrw := (unhide HS9).o.row
      rw [(unhide HS9).len] at hrw
      have hf3 : w9.frozen? ⟨g, 3, none⟩ = false := hrw.frozenAt 3
      have HPN := hide (pick_rd B a len cap (p + 1) 4 w9.drew (unhide HS9).rd.drew.rd (by have := (unhide HH).1; omega) (by omega))
      have HSK := hide (fun (w' : World) (hm : ∀ b, b < w9.heap.size → b ≠ B → w'.heap[b]? = w9.heap[b]?) => show w'.cell? ⟨w0.heap.size, 1, none⟩ = some (.slice (some ⟨g, 0, none⟩) fs.length c7) ∧ w'.cell? ⟨g, 3, none⟩ = some (.int .i64 et) ∧ w'.frozen? ⟨g, 3, none⟩ = false from ⟨(World.cell?_of_block (w := w9) (a := ⟨w0.heap.size, 1, none⟩) (hm w0.heap.size hsz' hnb)).trans x1, (World.cell?_of_block (w := w9) (a := ⟨g, 3, none⟩) (hm g hg.2 hgb)).trans hk3, (World.frozen?_of_block (w := w9) (a := ⟨g, 3, none⟩) (hm g hg.2 hgb)).trans hf3⟩)
      have HCC := hide hC
      have HEL := hide hel
      clear hC hel hrw hg hsz hb0 hnb hgb hsz'
      go_wp2
      go_region_with (first | (go_at_call 24; refine (unhide HPN).mono ?_; rintro r w10 ⟨z, rfl, n0, n1, hk10, -⟩; have n2 := n1 (by omega); have hwr : IntKind.i64.wrap (1 + z) = 1 + z := (by rw [IntKind.wrap_i64]; omega); obtain ⟨k1', k3', f3'⟩ := unhide HSK w10 (fun b hb hn => hk10.mv.2 b hb hn); have HK10 := hide hk10; clear n1 hk10))
      all_goals
        have hC := unhide HCC
        have hel := unhide HEL
        have s10 : BS S h B a len cap w0 w10 2 p (p + 1 + 1) a1 k1 us g c7 ps fs a3 k3 mn := (unhide HS9).next ⟨(unhide HK10).rd, (MovedG.refl B w9).drew.trans (unhide HK10).mv, (unhide HK10).le⟩
        have hsx : StayD (OffD (fun b => S b ∨ w0.heap.size + 2 ≤ b) (some g)) w9 w10 := (MovedG.stay (B := B) ((MovedG.refl B w9).drew.trans (unhide HK10).mv) (fun b h => by
          rcases h.1 with h | h
          · exact ((unhide HS9).sb b h).1
          · have := (unhide HS9).hb; omega))
        have hgl := s10.gl
        obtain ⟨x, hx⟩ : ∃ x, (ps[0]'hjl).1 = x := ⟨_, rfl⟩
        rw [hx] at hel
        obtain ⟨y, hy⟩ : ∃ y : TF, y = ⟨x.name, x.pub, x.args, 1 + z, x.body⟩ := ⟨_, rfl⟩
        have r1 := s10.o.raw.put 0 hjl 3 (by omega) (.int .i64 (1 + z)) rfl y _ hC
        rw [Nat.zero_mul, Nat.zero_add] at r1
        have hs0 : StayD (fun b => b ≠ g) w10 (w10.setCell ⟨g, 3, none⟩ (.int .i64 (1 + z))) := (StayD.refl (fun b => b ≠ g) w10).set g 3 (.int .i64 (1 + z)) (fun _ hb => hb rfl)
        have hd := s10.rd.set s10.hb g 3 (.int .i64 (1 + z)) (by omega)
        obtain ⟨V, hV⟩ : ∃ V, V = w10.setCell ⟨g, 3, none⟩ (.int .i64 (1 + z)) := ⟨_, rfl⟩
        rw [← hV] at r1 hs0 hd
        have hel5 : KpD (OffD (fun b => S b ∨ w0.heap.size + 2 ≤ b) (some g)) V (fun W => EltF (h + 2) W y [.string en, .bool ep, .slice ea el ec, .int .i64 (1 + z), .int .i64 ek, .int .i64 em, .string eo, .string ed, .slice eb ef eg]) := fun W hW => by
          obtain ⟨z0, z1, z2, z3, z4, z5, z6, z7, z8, e, hE⟩ := hel W ((hsx.trans (hs0.less (fun b _ h e => h.2 (by rw [e])))).trans hW)
          rw [hC] at e
          simp only [List.cons.injEq, and_true] at e
          obtain ⟨rfl, rfl, rfl, rfl, rfl, rfl, rfl, rfl, rfl⟩ := e
          obtain ⟨aa, ca, b0, b1, b2, b3, b4, hv, hz, ha, hB⟩ := hE
          simp only [Value.agg.injEq, Array.mk.injEq, List.cons.injEq, and_true] at hv
          obtain ⟨v0, v1, v2, v3, rfl, rfl, rfl, rfl, rfl⟩ := hv
          refine ⟨_, _, _, _, _, _, _, _, _, rfl, ?_⟩
          rw [hy, v0, v1, v2]
          exact ⟨aa, ca, _, _, _, _, _, rfl, hz, ha, hB.ups (by omega)⟩
        have hyw : y.wt ≤ 2 * (ps[0]'hjl).1.wt + 100 := by
          rw [hx, hy]
          unfold TF.wt
          show x.name.size + (x.args.length + wtArgs x.args) + x.body.wt ≤ _
          omega
        have hbr := s10.setF (by omega) (by rw [wt_eqM]; exact unhide HWT) (unhide HH).2.2.1 hd hs0 0 hjl y _ r1 hel5 hyw
        rw [hV] at hbr
        have HBR := hide hbr
        clear hC hel s10 hsx hgl hx hy r1 hs0 hd hV hel5 hyw hbr k1' k3' f3' n0 n2 hwr hk3 hf3 x0 x1 x2
        obtain ⟨W12, hW12⟩ : ∃ W12, W12 = w10.setCell ⟨g, 3, none⟩ (.int .i64 (1 + z)) := ⟨_, rfl⟩
        rw [← hW12] at HBR ⊢
        clear hW12
        go_upto_region 19 with fail
        obtain ⟨y1, y2, y3, l1, q1, l2, q2, l3, q3, s0, s1, s2, t0, t1, t2, f0, f1, f2, hfin⟩ := (unhide HBR).fin (unhide HS9).hb (unhide HS9).sb
        have HFIN := hide hfin
        clear hfin
        go_wp2
        obtain ⟨F, hF⟩ : ∃ F, F = ((W12.setCell ⟨w0.heap.size + 1, 0, none⟩ (.slice y1 l1 q1)).setCell ⟨w0.heap.size + 1, 1, none⟩ (.slice y2 l2 q2)).setCell ⟨w0.heap.size + 1, 2, none⟩ (.slice y3 l3 q3) := ⟨_, rfl⟩
        obtain ⟨g0, g1, g2, m', q', hm, hw, hr⟩ := unhide HFIN F hF
        rw [← hF]
        refine bodyPost_ret (v := .agg #[.slice y1 l1 q1, .slice y2 l2 q2, .slice y3 l3 q3]) (by simp [results, Tryz.results25, go_sem, g0, g1, g2]) rfl ?_
        first | exact ⟨_, m', q', rfl, hm, hw, hr⟩ | exact ⟨_, rfl, m', hm, hw, q', hr⟩
  · by_cases h0 : fs.length = 0
    · have hng : ¬ (0 : Int) < (fs.length : Int) := by omega
      clear h0
      have HBR := hide ((unhide HS9).done (by omega) (by rw [wt_eqM]; exact unhide HWT) (unhide HH).2.2.1)
      go_upto_region 19 with fail
      clear x0 x1 x2
      obtain ⟨y1, y2, y3, l1, q1, l2, q2, l3, q3, s0, s1, s2, t0, t1, t2, f0, f1, f2, hfin⟩ := (unhide HBR).fin (unhide HS9).hb (unhide HS9).sb
      have HFIN := hide hfin
      clear hfin
      go_wp2
      obtain ⟨F, hF⟩ : ∃ F, F = ((w9.setCell ⟨w0.heap.size + 1, 0, none⟩ (.slice y1 l1 q1)).setCell ⟨w0.heap.size + 1, 1, none⟩ (.slice y2 l2 q2)).setCell ⟨w0.heap.size + 1, 2, none⟩ (.slice y3 l3 q3) := ⟨_, rfl⟩
      obtain ⟨g0, g1, g2, m', q', hm, hw, hr⟩ := unhide HFIN F hF
      rw [← hF]
      refine bodyPost_ret (v := .agg #[.slice y1 l1 q1, .slice y2 l2 q2, .slice y3 l3 q3]) (by simp [results, Tryz.results25, go_sem, g0, g1, g2]) rfl ?_
      first | exact ⟨_, m', q', rfl, hm, hw, hr⟩ | exact ⟨_, rfl, m', hm, hw, q', hr⟩
    · have hng : (0 : Int) < (fs.length : Int) := by omega
      have hnn : 0 < fs.length := by omega
      clear h0
      have hjl : 0 < ps.length := by rw [(unhide HS9).len]; exact hnn
      obtain ⟨c0, c1, c2, c3, c4, c5, c6, c8, c9, hC⟩ := (unhide HS9).o.nine 0 hjl
      obtain ⟨g', c', w10, r10, e10, f10, hbr⟩ := (unhide HS9).more (by omega) (by rw [wt_eqM]; exact unhide HWT) (unhide HH).2.2.1 hjl _ hC
      have hcl : ∀ i, i < 9 → w9.cell? ⟨g, i, none⟩ = ([c0, c1, c2, c3, c4, c5, c6, c8, c9] : List Value)[i]? := fun i hi => by
        rw [← hC]
        have := (unhide HS9).o.cell 0 hjl i hi
        rw [Nat.zero_mul, Nat.zero_add] at this
        exact this
      have k0 := hcl 0 (by omega)
      have k1 := hcl 1 (by omega)
      have k2 := hcl 2 (by omega)
      have k3 := hcl 3 (by omega)
      have k4 := hcl 4 (by omega)
      have k5 := hcl 5 (by omega)
      have k6 := hcl 6 (by omega)
      have k7 := hcl 7 (by omega)
      have k8 := hcl 8 (by omega)
      simp only [List.getElem?_cons_zero, List.getElem?_cons_succ] at k0 k1 k2 k3 k4 k5 k6 k7 k8
      have HBR := hide hbr
      have q1 : w0.heap.size < w9.heap.size := by have := (unhide HS9).sz; omega
      have q2 : g < w9.heap.size := (unhide HS9).gl.2
      have q3 : w0.heap.size ≠ w9.heap.size := by omega
      have q4 : g ≠ w9.heap.size := by omega
      clear hbr hcl hC
      go_wp2
      go_region_law (first | (refine step_runD rfl (.tmp 77) (.tmp 82) 24 rfl rfl (.slice (some ⟨g, 0, none⟩) fs.length c7) (.slice (some ⟨w9.heap.size, 0, none⟩) 1 1) rfl rfl (.slice (some ⟨g', 0, none⟩) (fs.length + 1) c') w10 (by exact r10) ?_))
      all_goals
        clear r10 e10 f10 q1 q2 q3 q4 k0 k1 k2 k3 k4 k5 k6 k7 k8 x0 x1 x2
        obtain ⟨W12, hW12⟩ : ∃ W12, W12 = w10.setCell ⟨w0.heap.size, 1, none⟩ (.slice (some ⟨g', 0, none⟩) (fs.length + 1) c') := ⟨_, rfl⟩
        rw [← hW12] at HBR ⊢
        clear hW12
        go_upto_region 19 with fail
        obtain ⟨y1, y2, y3, l1, q1, l2, q2, l3, q3, s0, s1, s2, t0, t1, t2, f0, f1, f2, hfin⟩ := (unhide HBR).fin (unhide HS9).hb (unhide HS9).sb
        have HFIN := hide hfin
        clear hfin
        go_wp2
        obtain ⟨F, hF⟩ : ∃ F, F = ((W12.setCell ⟨w0.heap.size + 1, 0, none⟩ (.slice y1 l1 q1)).setCell ⟨w0.heap.size + 1, 1, none⟩ (.slice y2 l2 q2)).setCell ⟨w0.heap.size + 1, 2, none⟩ (.slice y3 l3 q3) := ⟨_, rfl⟩
        obtain ⟨g0, g1, g2, m', q', hm, hw, hr⟩ := unhide HFIN F hF
        rw [← hF]
        refine bodyPost_ret (v := .agg #[.slice y1 l1 q1, .slice y2 l2 q2, .slice y3 l3 q3]) (by simp [results, Tryz.results25, go_sem, g0, g1, g2]) rfl ?_
        first | exact ⟨_, m', q', rfl, hm, hw, hr⟩ | exact ⟨_, rfl, m', hm, hw, q', hr⟩
  · by_cases h0 : mn.length = 0
    · have hng : ¬ (0 : Int) < (mn.length : Int) := by omega
      clear h0
      have HBR := hide ((unhide HS9).done (by omega) (by rw [wt_eqM]; exact unhide HWT) (unhide HH).2.2.1)
      go_upto_region 19 with fail
      clear x0 x1 x2
      obtain ⟨y1, y2, y3, l1, q1, l2, q2, l3, q3, s0, s1, s2, t0, t1, t2, f0, f1, f2, hfin⟩ := (unhide HBR).fin (unhide HS9).hb (unhide HS9).sb
      have HFIN := hide hfin
      clear hfin
      go_wp2
      obtain ⟨F, hF⟩ : ∃ F, F = ((w9.setCell ⟨w0.heap.size + 1, 0, none⟩ (.slice y1 l1 q1)).setCell ⟨w0.heap.size + 1, 1, none⟩ (.slice y2 l2 q2)).setCell ⟨w0.heap.size + 1, 2, none⟩ (.slice y3 l3 q3) := ⟨_, rfl⟩
      obtain ⟨g0, g1, g2, m', q', hm, hw, hr⟩ := unhide HFIN F hF
      rw [← hF]
      refine bodyPost_ret (v := .agg #[.slice y1 l1 q1, .slice y2 l2 q2, .slice y3 l3 q3]) (by simp [results, Tryz.results25, go_sem, g0, g1, g2]) rfl ?_
      first | exact ⟨_, m', q', rfl, hm, hw, hr⟩ | exact ⟨_, rfl, m', hm, hw, q', hr⟩
    · have hng : (0 : Int) < (mn.length : Int) := by omega
      have hnn : 0 < mn.length := by omega
      clear h0
      have hg := (unhide HS9).gl
      have hsz := (unhide HS9).sz
      have hb0 := (unhide HS9).hb
      obtain ⟨es, hef, he5, hes, hee⟩ := kids_elts (unhide HS9).m
      have hel : es.length = mn.length := by rw [← hef, List.length_map]
      have hel0 : 0 < es.length := by omega
      obtain ⟨b3, o3, rfl, hcl⟩ : ∃ b off : Nat, a3 = some ⟨b, off, none⟩ ∧ ∀ j u, ((es.map Prod.snd).flatten)[j]? = some u → w9.cell? ⟨b, off + j, none⟩ = some u := by
        rcases hes with h | h
        · rw [h] at hel0; simp at hel0
        · exact h
      obtain ⟨x, hx⟩ : ∃ x, (es[0]'hel0).1 = x := ⟨_, rfl⟩
      have hke := hee _ (List.getElem_mem hel0)
      rw [hx] at hke
      obtain ⟨d0, d1, d2, d3, d4, hC, hxe⟩ := hke.now
      obtain ⟨ek, em, en, ed, ea, el, ec, hv⟩ := IsE.five hxe
      simp only [Value.agg.injEq, Array.mk.injEq, List.cons.injEq, and_true] at hv
      obtain ⟨rfl, rfl, rfl, rfl, rfl⟩ := hv
      have hcc : ∀ i, i < 5 → w9.cell? ⟨b3, o3 + i, none⟩ = ([Value.int .i64 ek, .int .i64 em, .string en, .string ed, .slice ea el ec])[i]? := fun i hi => by
        have h1 := flat_at he5 0 hel0 i hi
        rw [Nat.zero_mul, Nat.zero_add, hC] at h1
        obtain ⟨u, hu⟩ : ∃ u, ([Value.int .i64 ek, .int .i64 em, .string en, .string ed, .slice ea el ec])[i]? = some u := ⟨_, List.getElem?_eq_getElem (by simpa using hi)⟩
        rw [hu] at h1 ⊢
        exact hcl i u h1
      have k0 := hcc 0 (by omega)
      have k1' := hcc 1 (by omega)
      have k2' := hcc 2 (by omega)
      have k3' := hcc 3 (by omega)
      have k4 := hcc 4 (by omega)
      simp only [List.getElem?_cons_zero, List.getElem?_cons_succ, Nat.add_zero] at k0 k1' k2' k3' k4
      have hbk : KeepE S h w9 (.agg #[.int .i64 ek, .int .i64 em, .string en, .string ed, .slice ea el ec]) x := fun W hW => by
        obtain ⟨z0, z1, z2, z3, z4, e, hE⟩ := hke W hW
        rw [hC] at e
        simp only [List.cons.injEq, and_true] at e
        obtain ⟨rfl, rfl, rfl, rfl, rfl⟩ := e
        exact hE
      have hxw : x.wt ≤ wtL mn := by
        have := wtL_memK mn 0 hnn
        have he : mn[0] = x := by rw [← hx]; simp only [← hef, List.getElem_map]
        rw [he] at this; exact this
      have hwt := unhide HWT
      have hle := (unhide HS9).rd.le
      have HIH := hide (turn_any h S B a len cap _ x w9 (p + 1) (unhide HS9).rd.rd (by omega) (by have := (unhide HH).1; omega) (fun b hb => ⟨((unhide HS9).sb b hb).1, by have := ((unhide HS9).sb b hb).2; omega⟩) hbk (by omega) (by have := (unhide HH).2.1; omega))
      have HXW := hide hxw
      clear hg hsz hb0 hef he5 hes hee hel hel0 hcl hx hke hC hxe hcc hbk hxw hwt hle
      go_upto_region 19 with (go_at_call 40; refine (unhide HIH).mono ?_; rintro r w10 ⟨v5, e5, q5, rfl, hke5, hwt5, hk10⟩; obtain ⟨fk, fm, fn, fd, fa, fl, fc, rfl⟩ := IsE.five hke5.now; have s10 := (unhide HS9).next hk10; have hsz10 := s10.sz; have y2 := s10.e.cellAt (i := 2) rfl; have z2 := s10.e.2 2; have q1 : w0.heap.size < w10.heap.size := (by omega); have q3 : w0.heap.size ≠ w10.heap.size := (by omega); have HS10 := hide s10; have HKE5 := hide hke5; have HWT5 := hide hwt5; have HK10 := hide hk10; clear s10 hsz10 hke5 hwt5 hk10)
      have hbr : BendR S h B a len cap w0 ((w10.setCell ⟨w0.heap.size, 2, none⟩ (.slice (some ⟨w10.heap.size, 0, none⟩) 1 1)).alloc (.cells #[.int .i64 fk, .int .i64 fm, .string fn, .string fd, .slice fa fl fc] 31)) p := by
        obtain ⟨V0, hV0⟩ : ∃ V0, V0 = w10.setCell ⟨w0.heap.size, 2, none⟩ (.slice (some ⟨w10.heap.size, 0, none⟩) 1 1) := ⟨_, rfl⟩
        obtain ⟨hst, hrd, hr, he, hz⟩ := (unhide HS10).putE 2 (.slice (some ⟨w10.heap.size, 0, none⟩) 1 1) V0 hV0
        have hVs : V0.heap.size = w10.heap.size := by rw [hV0]; simp [World.setCell]
        rw [← hV0]
        have hb1 := below_one V0 (.cells #[.int .i64 fk, .int .i64 fm, .string fn, .string fd, .slice fa fl fc] 31)
        have hblk : Blk (V0.alloc (.cells #[.int .i64 fk, .int .i64 fm, .string fn, .string fd, .slice fa fl fc] 31)) w10.heap.size [.int .i64 fk, .int .i64 fm, .string fn, .string fd, .slice fa fl fc] := by
          rw [← hVs]
          exact Blk.new V0 [.int .i64 fk, .int .i64 fm, .string fn, .string fd, .slice fa fl fc] 31
        have hsz10 := (unhide HS10).sz
        have hz9 : w9.heap.size ≤ w10.heap.size := (unhide HK10).size
        have hsz9 := (unhide HS9).sz
        have hsa : (V0.alloc (.cells #[.int .i64 fk, .int .i64 fm, .string fn, .string fd, .slice fa fl fc] 31)).heap.size = V0.heap.size + 1 := alloc_size _ _
        have hM := kidRow (S := fun b => S b ∨ w0.heap.size + 2 ≤ b) hblk (by omega) (.inr hsz10) (((unhide HKE5).less (fun b _ h => h.imp id (fun h => by omega))).stay (hst.trans (StayD.below hb1)))
        have hwt := unhide HWT
        have e6 := wt_eqM us fs [e5]
        have e7 : wtL [e5] = e5.wt := by simp [wtL]
        have h1 := unhide HWT5
        have h2 := unhide HXW
        exact bend_end (mn := [e5]) (hrd.alloc (unhide HS9).hb _) (by omega) ((he (by omega)).below hb1 (by omega)) (hr.below hb1 (by omega)) ((unhide HS10).u2.stay (hst.trans (StayD.below hb1))) ((unhide HS10).f2.stay (hst.trans (StayD.below hb1))) hM (by rw [e6, e7, List.length_singleton]; omega) (by omega) (unhide HH).2.2.1
      have HBR := hide hbr
      clear hbr y2 z2 q1 q3 k0 k1' k2' k3' k4 x0 x1 x2
      obtain ⟨W12, hW12⟩ : ∃ W12, W12 = (w10.setCell ⟨w0.heap.size, 2, none⟩ (.slice (some ⟨w10.heap.size, 0, none⟩) 1 1)).alloc (.cells #[.int .i64 fk, .int .i64 fm, .string fn, .string fd, .slice fa fl fc] 31) := ⟨_, rfl⟩
      rw [← hW12] at HBR ⊢
      clear hW12
      obtain ⟨y1, y2, y3, l1, q1, l2, q2, l3, q3, s0, s1, s2, t0, t1, t2, f0, f1, f2, hfin⟩ := (unhide HBR).fin (unhide HS9).hb (unhide HS9).sb
      have HFIN := hide hfin
      clear hfin
      go_wp2
      obtain ⟨F, hF⟩ : ∃ F, F = ((W12.setCell ⟨w0.heap.size + 1, 0, none⟩ (.slice y1 l1 q1)).setCell ⟨w0.heap.size + 1, 1, none⟩ (.slice y2 l2 q2)).setCell ⟨w0.heap.size + 1, 2, none⟩ (.slice y3 l3 q3) := ⟨_, rfl⟩
      obtain ⟨g0, g1, g2, m', q', hm, hw, hr⟩ := unhide HFIN F hF
      rw [← hF]
      refine bodyPost_ret (v := .agg #[.slice y1 l1 q1, .slice y2 l2 q2, .slice y3 l3 q3]) (by simp [results, Tryz.results25, go_sem, g0, g1, g2]) rfl ?_
      first | exact ⟨_, m', q', rfl, hm, hw, hr⟩ | exact ⟨_, rfl, m', hm, hw, q', hr⟩
  · have m0 : (i8 == 0) = false := by simp; omega
    have m1 : (i8 == 1) = false := by simp; omega
    have m2 : (i8 == 2) = false := by simp; omega
    have m3 : (i8 == 3) = false := by simp; omega
    have m4 : (i8 == 4) = false := by simp; omega
    by_cases h0 : fs.length = 0
    · have hng : ¬ (0 : Int) < (fs.length : Int) := by omega
      clear h0
      have HBR := hide ((unhide HS9).done (by omega) (by rw [wt_eqM]; exact unhide HWT) (unhide HH).2.2.1)
      go_upto_region 19 with fail
      clear x0 x1 x2
      obtain ⟨y1, y2, y3, l1, q1, l2, q2, l3, q3, s0, s1, s2, t0, t1, t2, f0, f1, f2, hfin⟩ := (unhide HBR).fin (unhide HS9).hb (unhide HS9).sb
      have HFIN := hide hfin
      clear hfin
      go_wp2
      obtain ⟨F, hF⟩ : ∃ F, F = ((w9.setCell ⟨w0.heap.size + 1, 0, none⟩ (.slice y1 l1 q1)).setCell ⟨w0.heap.size + 1, 1, none⟩ (.slice y2 l2 q2)).setCell ⟨w0.heap.size + 1, 2, none⟩ (.slice y3 l3 q3) := ⟨_, rfl⟩
      obtain ⟨g0, g1, g2, m', q', hm, hw, hr⟩ := unhide HFIN F hF
      rw [← hF]
      refine bodyPost_ret (v := .agg #[.slice y1 l1 q1, .slice y2 l2 q2, .slice y3 l3 q3]) (by simp [results, Tryz.results25, go_sem, g0, g1, g2]) rfl ?_
      first | exact ⟨_, m', q', rfl, hm, hw, hr⟩ | exact ⟨_, rfl, m', hm, hw, q', hr⟩
    · have hng : (0 : Int) < (fs.length : Int) := by omega
      have hnn : 0 < fs.length := by omega
      clear h0
      have HPN := hide (pick_rd B a len cap (p + 1) (fs.length : Int) w9 (unhide HS9).rd.rd (by have := (unhide HH).1; omega) (by have := unhide HWT; omega))
      go_upto_region 5 with (go_at_call 24; refine (unhide HPN).mono ?_; rintro r w10 ⟨i9, rfl, n0, n1, hk10, -⟩; have HK10 := hide hk10; clear hk10)
      have n2 := n1 (by omega)
      obtain ⟨j, rfl⟩ := Int.eq_ofNat_of_zero_le n0
      have hjf : j < fs.length := by omega
      have s10 := (unhide HS9).next (unhide HK10)
      have hjl : j < ps.length := by rw [s10.len]; exact hjf
      clear n0 n1 n2 HPN x0 x1 x2
      obtain ⟨x, hx⟩ : ∃ x, (ps[j]'hjl).1 = x := ⟨_, rfl⟩
      have hel := s10.o.els _ (List.getElem_mem hjl)
      rw [hx] at hel
      obtain ⟨d0, d1, d2, d3, d4, d5, d6, d7, d8, hC, hxe⟩ := hel.now
      obtain ⟨en, ep, ea, el, ec, et, ek, em, eo, ed, eb, ef, eg, rfl, rfl, rfl, rfl, rfl, rfl, rfl, rfl, rfl⟩ := IsFun.form h hxe
      have hg := s10.gl
      have hsb := s10.sb
      have hb0 := s10.hb
      have hsz := s10.sz
      have hxk : ∀ W, StayD (fun b => ((S b ∨ w0.heap.size + 2 ≤ b) ∧ b ≠ g) ∧ b < w10.heap.size) w10 W → ∃ aa ca, IsFun W 0 W.heap.size h (.agg #[.string en, .bool ep, .slice ea el ec, .int .i64 et, .int .i64 ek, .int .i64 em, .string eo, .string ed, .slice eb ef eg]) x ∧ aa = ea ∧ ca = ec := fun W hW => by
        obtain ⟨z0, z1, z2, z3, z4, z5, z6, z7, z8, e, hE⟩ := (hel.less (S' := fun b => (((S b ∨ w0.heap.size + 2 ≤ b) ∧ b ≠ g) ∧ b < w10.heap.size)) (fun b hb h => ⟨⟨h.1, fun e => h.2 (by rw [e]; rfl)⟩, hb⟩)) W hW
        rw [hC] at e
        simp only [List.cons.injEq, and_true] at e
        obtain ⟨rfl, rfl, rfl, rfl, rfl, rfl, rfl, rfl, rfl⟩ := e
        exact ⟨_, _, hE, rfl, rfl⟩
      have hbk : KeepE (fun b => ((S b ∨ w0.heap.size + 2 ≤ b) ∧ b ≠ g) ∧ b < w10.heap.size) h w10.drew (.agg #[.int .i64 ek, .int .i64 em, .string eo, .string ed, .slice eb ef eg]) x.body := fun W hW => by
        obtain ⟨_, _, hE, _, _⟩ := hxk W hW
        obtain ⟨aa, ca, b0, b1, b2, b3, b4, hv, _, _, hB⟩ := hE
        simp only [Value.agg.injEq, Array.mk.injEq, List.cons.injEq, and_true] at hv
        obtain ⟨-, -, -, -, rfl, rfl, rfl, rfl, rfl⟩ := hv
        exact hB
      have hxw : x.wt ≤ wtFuns fs := by
        have := wtFuns_memW fs j hjf
        have he : fs[j] = x := by rw [← hx]; simp only [← s10.pf, List.getElem_map]
        rw [he] at this; exact this
      have hxb : x.body.wt ≤ x.wt := by unfold TF.wt; omega
      have hwt := unhide HWT
      have hhh := unhide HH
      have hd10 := (unhide HK10).drew
      have hle10 := s10.rd.le
      have HIH := hide (turn_any h (fun b => ((S b ∨ w0.heap.size + 2 ≤ b) ∧ b ≠ g) ∧ b < w10.heap.size) B a len cap _ x.body w10.drew (p + 1 + 1) hd10.rd (by show B < w10.heap.size; omega) (by omega) (fun b hb => ⟨by
        rcases hb.1.1 with h | h
        · exact (hsb b h).1
        · omega, hb.2⟩) hbk (by omega) (by omega))
      have hcl : ∀ i, i < 9 → w10.cell? ⟨g, j * 9 + i, none⟩ = ([Value.string en, .bool ep, .slice ea el ec, .int .i64 et, .int .i64 ek, .int .i64 em, .string eo, .string ed, .slice eb ef eg])[i]? := fun i hi => by rw [← hC]; exact s10.o.cell j hjl i hi
      have hrw := s10.o.row
      rw [s10.len] at hrw
      have HSK := hide (fun (w' : World) (hm : ∀ b, b < w10.heap.size → b ≠ B → w'.heap[b]? = w10.heap[b]?) => show w'.cell? ⟨w0.heap.size, 1, none⟩ = some (.slice (some ⟨g, 0, none⟩) fs.length c7) ∧ w'.cell? ⟨g, j * 9 + 4, none⟩ = some (.int .i64 ek) ∧ w'.cell? ⟨g, j * 9 + 5, none⟩ = some (.int .i64 em) ∧ w'.cell? ⟨g, j * 9 + 6, none⟩ = some (.string eo) ∧ w'.cell? ⟨g, j * 9 + 7, none⟩ = some (.string ed) ∧ w'.cell? ⟨g, j * 9 + 8, none⟩ = some (.slice eb ef eg) ∧ w'.frozen? ⟨g, j * 9 + 4, none⟩ = false ∧ w'.frozen? ⟨g, j * 9 + 5, none⟩ = false ∧ w'.frozen? ⟨g, j * 9 + 6, none⟩ = false ∧ w'.frozen? ⟨g, j * 9 + 7, none⟩ = false ∧ w'.frozen? ⟨g, j * 9 + 8, none⟩ = false from by
        have hgg : w'.heap[g]? = w10.heap[g]? := hm g (by omega) (by omega)
        refine ⟨(World.cell?_of_block (w := w10) (a := ⟨w0.heap.size, 1, none⟩) (hm w0.heap.size (by omega) (by omega))).trans (s10.e.1 1), ?_, ?_, ?_, ?_, ?_, ?_, ?_, ?_, ?_, ?_⟩
        · exact (World.cell?_of_block (w := w10) (a := ⟨g, j * 9 + 4, none⟩) hgg).trans (hcl 4 (by omega))
        · exact (World.cell?_of_block (w := w10) (a := ⟨g, j * 9 + 5, none⟩) hgg).trans (hcl 5 (by omega))
        · exact (World.cell?_of_block (w := w10) (a := ⟨g, j * 9 + 6, none⟩) hgg).trans (hcl 6 (by omega))
        · exact (World.cell?_of_block (w := w10) (a := ⟨g, j * 9 + 7, none⟩) hgg).trans (hcl 7 (by omega))
        · exact (World.cell?_of_block (w := w10) (a := ⟨g, j * 9 + 8, none⟩) hgg).trans (hcl 8 (by omega))
        · exact (World.frozen?_of_block (w := w10) (a := ⟨g, j * 9 + 4, none⟩) hgg).trans (hrw.frozenAt (j * 9 + 4))
        · exact (World.frozen?_of_block (w := w10) (a := ⟨g, j * 9 + 5, none⟩) hgg).trans (hrw.frozenAt (j * 9 + 5))
        · exact (World.frozen?_of_block (w := w10) (a := ⟨g, j * 9 + 6, none⟩) hgg).trans (hrw.frozenAt (j * 9 + 6))
        · exact (World.frozen?_of_block (w := w10) (a := ⟨g, j * 9 + 7, none⟩) hgg).trans (hrw.frozenAt (j * 9 + 7))
        · exact (World.frozen?_of_block (w := w10) (a := ⟨g, j * 9 + 8, none⟩) hgg).trans (hrw.frozenAt (j * 9 + 8)))
      obtain ⟨s1, t4, t5, t6, t7, t8, f4, f5, f6, f7, f8⟩ := unhide HSK w10 (fun _ _ _ => rfl)
      have HS10 := hide s10
      have HCC := hide hC
      have HXX := hide hx
      have HEL := hide hel
      have HXW := hide (And.intro hxw hxb)
      clear s10 hel hC hxe hxk hbk hxw hxb hwt hhh hd10 hle10 hcl hrw hg hsb hb0 hsz hx
      go_region_with (first | (go_at_call 40; refine (unhide HIH).mono ?_; rintro r w11 ⟨v5, e5, q5, rfl, hke5, hwt5, hk11⟩; obtain ⟨fk, fm, fn, fd, fa, fl, fc, rfl⟩ := IsE.five hke5.now; obtain ⟨b1, k4, k5, k6, k7, k8, z4, z5, z6, z7, z8⟩ := unhide HSK w11 (fun b hb hn => hk11.mv.2 b hb hn); have HKE5 := hide hke5; have HWT5 := hide hwt5; have HK11 := hide hk11; clear hke5 hwt5 hk11))
      all_goals
        have hC := unhide HCC
        have hel := unhide HEL
        have hxw := unhide HXW
        have hwt := unhide HWT
        have hhh := unhide HH
        have hk11 : RdM B a len cap (5 * h + 5) w10 w11 (p + 1 + 1) q5 := ⟨(unhide HK11).rd, (MovedG.refl B w10).drew.trans (unhide HK11).mv, (unhide HK11).le⟩
        have s10 := unhide HS10
        have s11 := s10.next hk11
        have hz11 : w10.heap.size ≤ w11.heap.size := hk11.size
        have hgl := s10.gl
        have hsz := s10.sz
        have hb0 := s10.hb
        have hSB2 : ∀ b, (S b ∨ w0.heap.size + 2 ≤ b) → b ≠ B := fun b h => by
          rcases h with h | h
          · exact (s10.sb b h).1
          · omega
        obtain ⟨x, rfl⟩ : ∃ y, y = x := ⟨_, rfl⟩
        obtain ⟨y, hy⟩ : ∃ y : TF, y = ⟨x.name, x.pub, x.args, x.type, e5⟩ := ⟨_, rfl⟩
        have r1 := s11.o.raw.put j hjl 4 (by omega) (.int .i64 fk) rfl y _ hC
        have r2 := r1.put j (by simpa using hjl) 5 (by omega) (.int .i64 fm) rfl y [.string en, .bool ep, .slice ea el ec, .int .i64 et, .int .i64 fk, .int .i64 em, .string eo, .string ed, .slice eb ef eg] (by simp)
        simp only [List.set_set] at r2
        have r3 := r2.put j (by simpa using hjl) 6 (by omega) (.string fn) rfl y [.string en, .bool ep, .slice ea el ec, .int .i64 et, .int .i64 fk, .int .i64 fm, .string eo, .string ed, .slice eb ef eg] (by simp)
        simp only [List.set_set] at r3
        have r4 := r3.put j (by simpa using hjl) 7 (by omega) (.string fd) rfl y [.string en, .bool ep, .slice ea el ec, .int .i64 et, .int .i64 fk, .int .i64 fm, .string fn, .string ed, .slice eb ef eg] (by simp)
        simp only [List.set_set] at r4
        have r5 := r4.put j (by simpa using hjl) 8 (by omega) (.slice fa fl fc) rfl y [.string en, .bool ep, .slice ea el ec, .int .i64 et, .int .i64 fk, .int .i64 fm, .string fn, .string fd, .slice eb ef eg] (by simp)
        simp only [List.set_set] at r5
        have hs0 : StayD (fun b => b ≠ g) w11 (((((w11.setCell ⟨g, j * 9 + 4, none⟩ (.int .i64 fk)).setCell ⟨g, j * 9 + 4 + 1, none⟩ (.int .i64 fm)).setCell ⟨g, j * 9 + 4 + 2, none⟩ (.string fn)).setCell ⟨g, j * 9 + 4 + 3, none⟩ (.string fd)).setCell ⟨g, j * 9 + 4 + 4, none⟩ (.slice fa fl fc)) := ((((((StayD.refl (fun b => b ≠ g) w11).set g (j * 9 + 4) (.int .i64 fk) (fun _ hb => hb rfl)).set g (j * 9 + 4 + 1) (.int .i64 fm) (fun _ hb => hb rfl)).set g (j * 9 + 4 + 2) (.string fn) (fun _ hb => hb rfl)).set g (j * 9 + 4 + 3) (.string fd) (fun _ hb => hb rfl)).set g (j * 9 + 4 + 4) (.slice fa fl fc) (fun _ hb => hb rfl))
        have hd := ((((s11.rd.set hb0 g (j * 9 + 4) (.int .i64 fk) (by omega)).set hb0 g (j * 9 + 4 + 1) (.int .i64 fm) (by omega)).set hb0 g (j * 9 + 4 + 2) (.string fn) (by omega)).set hb0 g (j * 9 + 4 + 3) (.string fd) (by omega)).set hb0 g (j * 9 + 4 + 4) (.slice fa fl fc) (by omega)
        obtain ⟨W12, hW12⟩ : ∃ W12, W12 = (((((w11.setCell ⟨g, j * 9 + 4, none⟩ (.int .i64 fk)).setCell ⟨g, j * 9 + 4 + 1, none⟩ (.int .i64 fm)).setCell ⟨g, j * 9 + 4 + 2, none⟩ (.string fn)).setCell ⟨g, j * 9 + 4 + 3, none⟩ (.string fd)).setCell ⟨g, j * 9 + 4 + 4, none⟩ (.slice fa fl fc)) := ⟨_, rfl⟩
        have r5' : RowD 9 33 (w0.heap.size + 2) W12 (.slice (some ⟨g, 0, none⟩) fs.length c7) (ps.set j (y, [.string en, .bool ep, .slice ea el ec, .int .i64 et, .int .i64 fk, .int .i64 fm, .string fn, .string fd, .slice fa fl fc])) := hW12 ▸ r5
        rw [← hW12] at hs0 hd ⊢
        have hs10 : StayD (OffD (fun b => S b ∨ w0.heap.size + 2 ≤ b) (some g)) w10 W12 := (hk11.mv.stay (fun b h => hSB2 b h.1)).trans (hs0.less (fun b _ h e => h.2 (by rw [e])))
        have hel5 : KpD (OffD (fun b => S b ∨ w0.heap.size + 2 ≤ b) (some g)) W12 (fun W => EltF (h + 2) W y [.string en, .bool ep, .slice ea el ec, .int .i64 et, .int .i64 fk, .int .i64 fm, .string fn, .string fd, .slice fa fl fc]) := fun W hW => by
          obtain ⟨z0, z1, z2, z3, z4, z5, z6, z7, z8, e, hE⟩ := hel W (hs10.trans hW)
          rw [hC] at e
          simp only [List.cons.injEq, and_true] at e
          obtain ⟨rfl, rfl, rfl, rfl, rfl, rfl, rfl, rfl, rfl⟩ := e
          obtain ⟨aa, ca, b0, b1, b2, b3, b4, hv, hz, ha, -⟩ := hE
          simp only [Value.agg.injEq, Array.mk.injEq, List.cons.injEq, and_true] at hv
          obtain ⟨v0, v1, v2, v3, -, -, -, -, -⟩ := hv
          refine ⟨_, _, _, _, _, _, _, _, _, rfl, ?_⟩
          rw [hy, v0, v1, v2, v3]
          refine ⟨aa, ca, _, _, _, _, _, rfl, hz, ha, (unhide HKE5) W ?_⟩
          refine ((hs0.less (fun b _ hb => ?_)).trans (hW.less (fun b _ hb => ?_)) : StayD _ w11 W)
          · rcases hb with hb | hb
            · exact hb.1.2
            · have h9 : w10.heap.size ≤ b := hb
              show b ≠ g
              omega
          · rcases hb with hb | hb
            · exact ⟨hb.1.1, fun e => hb.1.2 (Option.some.inj e)⟩
            · have h9 : w10.heap.size ≤ b := hb
              exact ⟨.inr (by omega), fun e => by have := Option.some.inj e; omega⟩
        have hyw : y.wt ≤ 2 * (ps[j]'hjl).1.wt + 100 := by
          rw [unhide HXX, hy]
          have h1 := unhide HWT5
          unfold TF.wt
          show x.name.size + (x.args.length + wtArgs x.args) + e5.wt ≤ _
          omega
        have HBR := hide (s11.setF (by omega) (by rw [wt_eqM]; exact hwt) hhh.2.2.1 hd hs0 j hjl y _ r5' hel5 hyw)
        clear hC hel hxw hwt hhh hk11 s10 s11 hz11 hgl hsz hb0 hSB2 r1 r2 r3 r4 r5 hs0 hd hW12 r5' hs10 hel5 hyw hy s1 t4 t5 t6 t7 t8 f4 f5 f6 f7 f8 b1 k4 k5 k6 k7 k8 z4 z5 z6 z7 z8
        obtain ⟨y1, y2, y3, l1, q1, l2, q2, l3, q3, s0, s1, s2, t0, t1, t2, f0, f1, f2, hfin⟩ := (unhide HBR).fin (unhide HS9).hb (unhide HS9).sb
        have HFIN := hide hfin
        clear hfin
        go_wp2
        obtain ⟨F, hF⟩ : ∃ F, F = ((W12.setCell ⟨w0.heap.size + 1, 0, none⟩ (.slice y1 l1 q1)).setCell ⟨w0.heap.size + 1, 1, none⟩ (.slice y2 l2 q2)).setCell ⟨w0.heap.size + 1, 2, none⟩ (.slice y3 l3 q3) := ⟨_, rfl⟩
        obtain ⟨g0, g1, g2, m', q', hm, hw, hr⟩ := unhide HFIN F hF
        rw [← hF]
        refine bodyPost_ret (v := .agg #[.slice y1 l1 q1, .slice y2 l2 q2, .slice y3 l3 q3]) (by simp [results, Tryz.results25, go_sem, g0, g1, g2]) rfl ?_
        first | exact ⟨_, m', q', rfl, hm, hw, hr⟩ | exact ⟨_, rfl, m', hm, hw, q', hr⟩
end Go.Proofs.YtffabnmgcicpiaaGreat
