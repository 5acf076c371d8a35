/- A module that is bent, plain: its words copied, what is kept while it is bent, and what comes of each way. No conditions. -/
import Derived.Test.YtffabnmgcicpiaaGreatDla
import Derived.Test.YtffabnmgcicpiaaGreatDkb
namespace Go.Proofs.YtffabnmgcicpiaaGreat
open Go.RowKit Go.PlainAid

theorem copyW {S : Nat → Prop} {B len cap N p q : Nat} {a0 a : Option Addr} {w0 w : World} {us : List ByteArray} (hk : KpD S w (fun W => IsWds W 0 W.heap.size a us)) (c : Nat) (hn : us.length ≤ 90000) (hsz : ∀ x ∈ us, x.size ≤ maxLen) (hR : RdM B a0 len cap N w0 w p q) (hB : B < w0.heap.size) :
    ∃ (g c7 : Nat) (W7 : World), (Builtin.append_ #[23, 23] 23 #[.slice (some ⟨w.heap.size, 0, none⟩) 0 0, .slice a us.length c]).run Tryz.prog (w.alloc (.cells #[] 9)) = .ok (.slice (some ⟨g, 0, none⟩) us.length c7) W7 ∧
      OwnD EltW 1 9 (fun b => S b ∨ w.heap.size ≤ b) w.heap.size W7 (.slice (some ⟨g, 0, none⟩) us.length c7) (wordsP us) ∧ RdM B a0 len cap N w0 W7 p q ∧ Below w.heap.size w W7 := by
  obtain ⟨ie, hei, hez0, hez1, hez2⟩ := info_parts infoW
  have hsrc : Srcs (w.alloc (.cells #[] 9)) a (wordsP us) := by
    rcases hk.now.srcs with e | ⟨b, off, ha, hc⟩
    · exact .inl e
    · exact .inr ⟨b, off, ha, fun j u hu => by
        have h1 := hc j u hu
        have hb : b < w.heap.size := by
          apply Classical.byContradiction
          intro hn
          unfold World.cell? at h1
          rw [Array.getElem?_eq_none (by show w.heap.size ≤ b; omega)] at h1
          cases h1
        exact ((below_one w (.cells #[] 9)).cell (p := ⟨b, off + j, none⟩) hb).trans h1⟩
  obtain ⟨g, c7, W7, r, o, y, -⟩ := appAllW (OwnD.made EltW 1 9 (fun b => S b ∨ w.heap.size ≤ b) w) (by rw [alloc_size]; omega) 23 ie _ 16 Tryz.underlying23 hei hez0 hez1 hez2 rfl (by omega) (by omega) a c (wordsP us) (wordsP_one us) hsrc (by rw [List.length_nil, wordsP_len]; omega) (fun x hx => by
    obtain ⟨y, hy, rfl⟩ := List.mem_map.1 hx
    exact fun W _ => ⟨rfl, hsz y hy⟩)
  simp only [List.length_nil, Nat.zero_add, List.nil_append, wordsP_len] at r o
  refine ⟨g, c7, W7, r, o, (hR.alloc hB _).grown (v := .slice (some ⟨w.heap.size, 0, none⟩) 0 0) hB y (fun k hk => by have : w.heap.size = k := Option.some.inj hk; have := hR.size; omega), ?_⟩
  exact (below_one w (.cells #[] 9)).grown y (by rw [alloc_size]; omega) (fun k hk => by have : w.heap.size = k := Option.some.inj hk; omega)

abbrev nil3 : List Value := [.slice none 0 0, .slice none 0 0, .slice none 0 0]
theorem wds_mem {l : List ByteArray} {x : ByteArray} (h : x ∈ l) : x.size ≤ wtWds l := by
  induction l with
  | nil => cases h
  | cons y t ih =>
    unfold wtWds at ih ⊢
    rw [List.map_cons, List.sum_cons]
    rcases List.mem_cons.1 h with rfl | h
    · omega
    · have := ih h; omega
/-- What a bent module is. -/
def BendR (S : Nat → Prop) (h B : Nat) (a : Option Addr) (len cap : Nat) (w0 w : World) (p : Nat) : Prop :=
  ∃ (a1 a2 a3 : Option Addr) (l1 k1 l2 k2 l3 k3 : Nat) (m' : TM) (q : Nat), Blk w w0.heap.size [.slice a1 l1 k1, .slice a2 l2 k2, .slice a3 l3 k3] ∧ Blk w (w0.heap.size + 1) nil3 ∧
    KpD (fun b => S b ∨ w0.heap.size + 2 ≤ b) w (fun W => IsMod W 0 W.heap.size (h + 2) (.agg #[.slice a1 l1 k1, .slice a2 l2 k2, .slice a3 l3 k3]) m') ∧ m'.wt ≤ 90000 ∧ RdM B a len cap (5 * h + 20) w0 w p q ∧ w0.heap.size + 2 ≤ w.heap.size
theorem bend_end {S : Nat → Prop} {h B len cap N p q : Nat} {a : Option Addr} {w0 w : World} {ua fa ma : Option Addr} {uc fc mc : Nat} {us : List ByteArray} {fs : List TF} {mn : List TE}
    (hrd : RdM B a len cap N w0 w p q) (hN : N ≤ 5 * h + 20) (he : Blk w w0.heap.size [.slice ua us.length uc, .slice fa fs.length fc, .slice ma mn.length mc]) (hr : Blk w (w0.heap.size + 1) nil3)
    (hU : KpD (fun b => S b ∨ w0.heap.size + 2 ≤ b) w (fun W => IsWds W 0 W.heap.size ua us)) (hF : KpD (fun b => S b ∨ w0.heap.size + 2 ≤ b) w (fun W => IsFuns (IsFun W 0 W.heap.size (h + 2)) W 0 W.heap.size fa fs)) (hM : KpD (fun b => S b ∨ w0.heap.size + 2 ≤ b) w (fun W => IsKids (IsE W 0 W.heap.size (h + 2)) W 0 W.heap.size ma mn))
    (hwt : (TM.mk us fs mn).wt ≤ 90000) (hsz : w0.heap.size + 2 ≤ w.heap.size) (huc : us.length ≤ uc) : BendR S h B a len cap w0 w p := by
  have e : (TM.mk us fs mn).wt = (us.length + wtWds us) + (fs.length + wtFuns fs) + (mn.length + wtL mn) := rfl
  refine ⟨ua, fa, ma, _, uc, _, fc, _, mc, ⟨us, fs, mn⟩, q, he, hr, fun W hW => ?_, hwt, hrd.more hN, hsz⟩
  refine ⟨ua, fa, ma, uc, fc, mc, rfl, ⟨?_, ?_, ?_, fun x hx => ?_, huc⟩, hU W hW, hF W hW, hM W hW⟩
  · show us.length ≤ maxLen; unfold maxLen; omega
  · show fs.length ≤ maxLen; unfold maxLen; omega
  · show mn.length ≤ maxLen; unfold maxLen; omega
  · have := wds_mem (l := us) hx; unfold maxLen; omega
theorem kids_upsW {h h' : Nat} (hh : h ≤ h') {W : World} {a : Option Addr} {l : List TE} (hk : IsKids (IsE W 0 W.heap.size h) W 0 W.heap.size a l) : IsKids (IsE W 0 W.heap.size h') W 0 W.heap.size a l :=
  hk.mono (fun _ _ e => e.ups hh) (fun _ _ _ => rfl) (Nat.le_refl _) (Nat.le_refl _)
/-- What is kept while a module is bent: its functions lie copied in a row of their own. -/
structure BS (S : Nat → Prop) (h B : Nat) (a : Option Addr) (len cap : Nat) (w0 w : World) (N p q : Nat) (ua : Option Addr) (uc : Nat) (us : List ByteArray) (g c7 : Nat) (ps : List (TF × List Value)) (fs : List TF) (ma : Option Addr) (mc : Nat) (mn : List TE) : Prop where
  rd : RdM B a len cap N w0 w p q
  e : Blk w w0.heap.size [.slice ua us.length uc, .slice (some ⟨g, 0, none⟩) fs.length c7, .slice ma mn.length mc]
  r : Blk w (w0.heap.size + 1) nil3
  o : OwnD (EltF h) 9 33 (fun b => S b ∨ w0.heap.size + 2 ≤ b) (w0.heap.size + 2) w (.slice (some ⟨g, 0, none⟩) fs.length c7) ps
  pf : ps.map Prod.fst = fs
  u : KpD S w (fun W => IsWds W 0 W.heap.size ua us)
  m : KpD S w (fun W => IsKids (IsE W 0 W.heap.size h) W 0 W.heap.size ma mn)
  sz : w0.heap.size + 2 ≤ w.heap.size
  gl : w0.heap.size + 2 ≤ g ∧ g < w.heap.size
  sb : ∀ b, S b → b ≠ B ∧ b < w0.heap.size
  hb : B < w0.heap.size
theorem BS.len {S : Nat → Prop} {h B len cap N p q : Nat} {a : Option Addr} {w0 w : World} {ua ma : Option Addr} {uc g c7 mc : Nat} {us : List ByteArray} {ps : List (TF × List Value)} {fs : List TF} {mn : List TE} (s : BS S h B a len cap w0 w N p q ua uc us g c7 ps fs ma mc mn) : ps.length = fs.length := by rw [← s.pf, List.length_map]
theorem BS.next {S : Nat → Prop} {h B len cap N p q : Nat} {a : Option Addr} {w0 w : World} {ua ma : Option Addr} {uc g c7 mc : Nat} {us : List ByteArray} {ps : List (TF × List Value)} {fs : List TF} {mn : List TE} (s : BS S h B a len cap w0 w N p q ua uc us g c7 ps fs ma mc mn) {M r : Nat} {w' : World} (k : RdM B a len cap M w w' q r) : BS S h B a len cap w0 w' (N + M) p r ua uc us g c7 ps fs ma mc mn := by
  have hb := s.hb
  have hsz := s.sz
  have hk := k.size
  have hg := s.gl
  refine ⟨s.rd.trans k, s.e.ofb (k.mv.2 _ (by omega) (by omega)), s.r.ofb (k.mv.2 _ (by omega) (by omega)), s.o.staySub (k.mv.stay (fun b h => ?_)) (fun x hx => .inr (s.o.row.lt x hx).1), s.pf, s.u.stay (k.mv.stay (fun b h => (s.sb b h).1)), s.m.stay (k.mv.stay (fun b h => (s.sb b h).1)), by omega, ⟨hg.1, by omega⟩, s.sb, s.hb⟩
  rcases h with h | h
  · exact (s.sb b h).1
  · omega
theorem BS.below {S : Nat → Prop} {h B len cap N p q : Nat} {a : Option Addr} {w0 w : World} {ua ma : Option Addr} {uc g c7 mc : Nat} {us : List ByteArray} {ps : List (TF × List Value)} {fs : List TF} {mn : List TE} (s : BS S h B a len cap w0 w N p q ua uc us g c7 ps fs ma mc mn) {w' : World} (k : Below w.heap.size w w') : BS S h B a len cap w0 w' N p q ua uc us g c7 ps fs ma mc mn := by
  have hsz := s.sz
  have hg := s.gl
  have hk := k.size
  exact ⟨s.rd.below s.hb k, s.e.ofb (k.block _ (by omega)), s.r.ofb (k.block _ (by omega)), s.o.staySub (StayD.below k) (fun x hx => .inr (s.o.row.lt x hx).1), s.pf, s.u.stay (StayD.below k), s.m.stay (StayD.below k), by omega, ⟨hg.1, by omega⟩, s.sb, s.hb⟩
theorem BS.u2 {S : Nat → Prop} {h B len cap N p q : Nat} {a : Option Addr} {w0 w : World} {ua ma : Option Addr} {uc g c7 mc : Nat} {us : List ByteArray} {ps : List (TF × List Value)} {fs : List TF} {mn : List TE} (s : BS S h B a len cap w0 w N p q ua uc us g c7 ps fs ma mc mn) : KpD (fun b => S b ∨ w0.heap.size + 2 ≤ b) w (fun W => IsWds W 0 W.heap.size ua us) := s.u.less (fun _ _ h => .inl h)
theorem BS.m2 {S : Nat → Prop} {h B len cap N p q : Nat} {a : Option Addr} {w0 w : World} {ua ma : Option Addr} {uc g c7 mc : Nat} {us : List ByteArray} {ps : List (TF × List Value)} {fs : List TF} {mn : List TE} (s : BS S h B a len cap w0 w N p q ua uc us g c7 ps fs ma mc mn) : KpD (fun b => S b ∨ w0.heap.size + 2 ≤ b) w (fun W => IsKids (IsE W 0 W.heap.size (h + 2)) W 0 W.heap.size ma mn) := (s.m.less (fun _ _ h => .inl h)).imp (fun _ hW => kids_upsW (by omega) hW)
theorem own_funs {S2 : Nat → Prop} {h lo g n c : Nat} {w : World} {ps : List (TF × List Value)} (o : OwnD (EltF h) 9 33 S2 lo w (.slice (some ⟨g, 0, none⟩) n c) ps) (hg : S2 g) {h' : Nat} (hh : h ≤ h') : KpD S2 w (fun W => IsFuns (IsFun W 0 W.heap.size h') W 0 W.heap.size (some ⟨g, 0, none⟩) (ps.map Prod.fst)) :=
  ((o.map (R' := EltF h') (fun _ _ _ e => e.ups hh)).readsSub (fun x hx => by have e : g = x := Option.some.inj hx; rw [← e]; exact hg)).imp (fun _ hW => ReadD.funs hW)
theorem BS.f2 {S : Nat → Prop} {h B len cap N p q : Nat} {a : Option Addr} {w0 w : World} {ua ma : Option Addr} {uc g c7 mc : Nat} {us : List ByteArray} {ps : List (TF × List Value)} {fs : List TF} {mn : List TE} (s : BS S h B a len cap w0 w N p q ua uc us g c7 ps fs ma mc mn) : KpD (fun b => S b ∨ w0.heap.size + 2 ≤ b) w (fun W => IsFuns (IsFun W 0 W.heap.size (h + 2)) W 0 W.heap.size (some ⟨g, 0, none⟩) fs) := by
  have := own_funs s.o (.inr s.gl.1) (show h ≤ h + 2 by omega)
  rw [s.pf] at this
  exact this
/-- What the end of l22Bend makes of a bent module. -/
theorem BendR.fin {S : Nat → Prop} {h B len cap p : Nat} {a : Option Addr} {w0 W : World} (hB : B < w0.heap.size) (hSB : ∀ b, S b → b ≠ B ∧ b < w0.heap.size) (H : BendR S h B a len cap w0 W p) :
    ∃ (a1 a2 a3 : Option Addr) (l1 k1 l2 k2 l3 k3 : Nat), W.cell? ⟨w0.heap.size, 0, none⟩ = some (.slice a1 l1 k1) ∧ W.cell? ⟨w0.heap.size, 1, none⟩ = some (.slice a2 l2 k2) ∧ W.cell? ⟨w0.heap.size, 2, none⟩ = some (.slice a3 l3 k3) ∧
      W.cell? ⟨w0.heap.size + 1, 0, none⟩ = some (.slice none 0 0) ∧ W.cell? ⟨w0.heap.size + 1, 1, none⟩ = some (.slice none 0 0) ∧ W.cell? ⟨w0.heap.size + 1, 2, none⟩ = some (.slice none 0 0) ∧
      W.frozen? ⟨w0.heap.size + 1, 0, none⟩ = false ∧ W.frozen? ⟨w0.heap.size + 1, 1, none⟩ = false ∧ W.frozen? ⟨w0.heap.size + 1, 2, none⟩ = false ∧
      ∀ F, F = ((W.setCell ⟨w0.heap.size + 1, 0, none⟩ (.slice a1 l1 k1)).setCell ⟨w0.heap.size + 1, 1, none⟩ (.slice a2 l2 k2)).setCell ⟨w0.heap.size + 1, 2, none⟩ (.slice a3 l3 k3) →
        F.cell? ⟨w0.heap.size + 1, 0, none⟩ = some (.slice a1 l1 k1) ∧ F.cell? ⟨w0.heap.size + 1, 1, none⟩ = some (.slice a2 l2 k2) ∧ F.cell? ⟨w0.heap.size + 1, 2, none⟩ = some (.slice a3 l3 k3) ∧
        ∃ (m' : TM) (q : Nat), KpD (fun b => S b ∨ w0.heap.size ≤ b) F (fun W => IsMod W 0 W.heap.size (h + 2) (.agg #[.slice a1 l1 k1, .slice a2 l2 k2, .slice a3 l3 k3]) m') ∧ m'.wt ≤ 90000 ∧ RdM B a len cap (5 * h + 20) w0 F p q := by
  obtain ⟨a1, a2, a3, l1, k1, l2, k2, l3, k3, m', q, he, hr, hm, hw, hrd, hsz⟩ := H
  refine ⟨a1, a2, a3, l1, k1, l2, k2, l3, k3, he.cellAt (i := 0) rfl, he.cellAt (i := 1) rfl, he.cellAt (i := 2) rfl, hr.cellAt (i := 0) rfl, hr.cellAt (i := 1) rfl, hr.cellAt (i := 2) rfl, hr.2 0, hr.2 1, hr.2 2, fun F hF => ?_⟩
  have hn := ((hr.set 0 (.slice a1 l1 k1) (by simp)).set 1 (.slice a2 l2 k2) (by simp)).set 2 (.slice a3 l3 k3) (by simp)
  have hno : ¬ (S (w0.heap.size + 1) ∨ w0.heap.size + 2 ≤ w0.heap.size + 1) := fun h => by
    rcases h with h | h
    · have := (hSB _ h).2; omega
    · omega
  have hst : StayD (fun b => S b ∨ w0.heap.size + 2 ≤ b) W F := by
    rw [hF]
    exact (((StayD.refl _ W).set (w0.heap.size + 1) 0 _ (fun _ => hno)).set (w0.heap.size + 1) 1 _ (fun _ => hno)).set (w0.heap.size + 1) 2 _ (fun _ => hno)
  have hK := ((hrd.set hB (w0.heap.size + 1) 0 (.slice a1 l1 k1) (by omega)).set hB (w0.heap.size + 1) 1 (.slice a2 l2 k2) (by omega)).set hB (w0.heap.size + 1) 2 (.slice a3 l3 k3) (by omega)
  rw [← hF] at hn hK
  exact ⟨hn.cellAt (i := 0) rfl, hn.cellAt (i := 1) rfl, hn.cellAt (i := 2) rfl, m', q, (hm.stay hst).less (fun b _ h => h.imp id (fun h => by omega)), hw, hK⟩
/-- Nothing but the copy. -/
theorem BS.done {S : Nat → Prop} {h B len cap N p q : Nat} {a : Option Addr} {w0 w : World} {ua ma : Option Addr} {uc g c7 mc : Nat} {us : List ByteArray} {ps : List (TF × List Value)} {fs : List TF} {mn : List TE} (s : BS S h B a len cap w0 w N p q ua uc us g c7 ps fs ma mc mn) (hN : N ≤ 5 * h + 20) (hwt : (TM.mk us fs mn).wt ≤ 40000) (huc : us.length ≤ uc) : BendR S h B a len cap w0 w p :=
  bend_end s.rd hN s.e s.r s.u2 s.f2 s.m2 (by omega) s.sz huc
theorem wtFuns_set : ∀ (l : List TF) (k : Nat) (hk : k < l.length) (x : TF), wtFuns (l.set k x) + l[k].wt = wtFuns l + x.wt
  | [], _, hk, _ => by simp at hk
  | y :: t, 0, _, x => by unfold wtFuns; simp only [List.set_cons_zero, List.map_cons, List.sum_cons, List.getElem_cons_zero]; omega
  | y :: t, k + 1, hk, x => by
    have := wtFuns_set t k (by simpa using hk) x
    unfold wtFuns at this ⊢
    simp only [List.set_cons_succ, List.map_cons, List.sum_cons, List.getElem_cons_succ]; omega
theorem wtFuns_memW : ∀ (l : List TF) (k : Nat) (hk : k < l.length), l[k].wt ≤ wtFuns l
  | [], _, hk => by simp at hk
  | y :: t, 0, _ => by unfold wtFuns; simp only [List.map_cons, List.sum_cons, List.getElem_cons_zero]; omega
  | y :: t, k + 1, hk => by
    have := wtFuns_memW t k (by simpa using hk)
    unfold wtFuns at this ⊢
    simp only [List.map_cons, List.sum_cons, List.getElem_cons_succ]; omega
theorem wt_eqM (us : List ByteArray) (fs : List TF) (mn : List TE) : (TM.mk us fs mn).wt = (us.length + wtWds us) + (fs.length + wtFuns fs) + (mn.length + wtL mn) := rfl
/-- One function is turned in its place. -/
theorem BS.setF {S : Nat → Prop} {h B len cap N p q : Nat} {a : Option Addr} {w0 w : World} {ua ma : Option Addr} {uc g c7 mc : Nat} {us : List ByteArray} {ps : List (TF × List Value)} {fs : List TF} {mn : List TE} (s : BS S h B a len cap w0 w N p q ua uc us g c7 ps fs ma mc mn) (hN : N ≤ 5 * h + 20) (hwt : (TM.mk us fs mn).wt ≤ 40000) (huc : us.length ≤ uc) {W : World} (hrd : RdM B a len cap N w0 W p q) (hst : StayD (fun b => b ≠ g) w W) (j : Nat) (hj : j < ps.length) (y : TF) (C : List Value)
    (hrow : RowD 9 33 (w0.heap.size + 2) W (.slice (some ⟨g, 0, none⟩) fs.length c7) (ps.set j (y, C))) (hel : KpD (OffD (fun b => S b ∨ w0.heap.size + 2 ≤ b) (some g)) W (fun W => EltF (h + 2) W y C)) (hy : y.wt ≤ 2 * (ps[j]'hj).1.wt + 100) : BendR S h B a len cap w0 W p := by
  have hg := s.gl
  have hsz := s.sz
  have o := (s.o.map (R' := EltF (h + 2)) (fun _ _ _ e => e.ups (by omega))).turned hst j y C hrow hel
  have hF := own_funs o (.inr hg.1) (Nat.le_refl _)
  have e1 : (ps.set j (y, C)).map Prod.fst = fs.set j y := by rw [List.map_set, s.pf]
  rw [e1] at hF
  have hjf : j < fs.length := by rw [← s.len]; exact hj
  have e2 : fs[j] = (ps[j]'hj).1 := by simp only [← s.pf, List.getElem_map]
  have e3 := wtFuns_set fs j hjf y
  have e4 := wtFuns_memW fs j hjf
  rw [e2] at e3 e4
  have e5 := wt_eqM us fs mn
  have e6 := wt_eqM us (fs.set j y) mn
  rw [List.length_set] at e6
  have hS : ∀ b, b < w.heap.size → S b → b ≠ g := fun b _ hb e => by have := (s.sb b hb).2; omega
  refine bend_end (fc := c7) (mc := mc) hrd hN ?_ (s.r.ofb (hst.2 _ (by omega) (by omega))) ((s.u.stay (hst.less hS)).less (fun _ _ h => .inl h)) hF (((s.m.stay (hst.less hS)).less (fun _ _ h => .inl h)).imp (fun _ hW => kids_upsW (by omega) hW)) (by omega) (by have := hst.1; omega) huc
  rw [List.length_set]
  exact s.e.ofb (hst.2 _ (by omega) (by omega))
theorem BS.putE {S : Nat → Prop} {h B len cap N p q : Nat} {a : Option Addr} {w0 w : World} {ua ma : Option Addr} {uc g c7 mc : Nat} {us : List ByteArray} {ps : List (TF × List Value)} {fs : List TF} {mn : List TE} (s : BS S h B a len cap w0 w N p q ua uc us g c7 ps fs ma mc mn) (i : Nat) (v : Value) (W : World) (hW : W = w.setCell ⟨w0.heap.size, i, none⟩ v) : StayD (fun b => S b ∨ w0.heap.size + 2 ≤ b) w W ∧ RdM B a len cap N w0 W p q ∧ Blk W (w0.heap.size + 1) nil3 ∧ (i < 3 → Blk W w0.heap.size (([.slice ua us.length uc, .slice (some ⟨g, 0, none⟩) fs.length c7, .slice ma mn.length mc] : List Value).set i v)) ∧ w0.heap.size + 2 ≤ W.heap.size := by
  have hsz := s.sz
  refine ⟨?_, by rw [hW]; exact s.rd.set s.hb w0.heap.size i v (Nat.le_refl _), by rw [hW]; exact s.r.other w0.heap.size i v (by omega), fun hi => by rw [hW]; exact s.e.set i v (by simpa using hi), by rw [hW]; simpa [World.setCell] using hsz⟩
  rw [hW]
  exact (StayD.refl _ w).set w0.heap.size i v (fun _ h => by
    rcases h with h | h
    · have := (s.sb _ h).2; omega
    · omega)
/-- The row of functions has grown by one. -/
theorem BS.more {S : Nat → Prop} {h B len cap N p q : Nat} {a : Option Addr} {w0 w : World} {ua ma : Option Addr} {uc g c7 mc : Nat} {us : List ByteArray} {ps : List (TF × List Value)} {fs : List TF} {mn : List TE} (s : BS S h B a len cap w0 w N p q ua uc us g c7 ps fs ma mc mn) (hN : N ≤ 5 * h + 20) (hwt : (TM.mk us fs mn).wt ≤ 40000) (huc : us.length ≤ uc) (hj : 0 < ps.length) (C : List Value) (hC : (ps[0]'hj).2 = C) :
    ∃ (g' c' : Nat) (w10 : World), (Builtin.append_ #[24, 24] 24 #[.slice (some ⟨g, 0, none⟩) fs.length c7, .slice (some ⟨w.heap.size, 0, none⟩) 1 1]).run Tryz.prog ((w.alloc (.cells C.toArray 33)).drew) = .ok (.slice (some ⟨g', 0, none⟩) (fs.length + 1) c') w10 ∧
      w10.cell? ⟨w0.heap.size, 1, none⟩ = some (.slice (some ⟨g, 0, none⟩) fs.length c7) ∧ w10.frozen? ⟨w0.heap.size, 1, none⟩ = false ∧ BendR S h B a len cap w0 (w10.setCell ⟨w0.heap.size, 1, none⟩ (.slice (some ⟨g', 0, none⟩) (fs.length + 1) c')) p := by
  obtain ⟨ie, hei, hez0, hez1, hez2⟩ := info_parts infoF
  have hgl := s.gl
  have hsz := s.sz
  have hlen := s.len
  have e5 := wt_eqM us fs mn
  have hst : StayD (fun b => S b ∨ w0.heap.size + 2 ≤ b) w ((w.alloc (.cells C.toArray 33)).drew) := (StayD.below (below_one w _)).drew
  have o1 := s.o.staySub hst (fun x hx => .inr (s.o.row.lt x hx).1)
  obtain ⟨g', c', w10, r, o, y, l⟩ := o1.moreW (by show w0.heap.size + 2 ≤ (w.alloc (.cells C.toArray 33)).heap.size; rw [alloc_size]; omega) 24 ie _ 128 Tryz.underlying24 hei hez0 hez1 hez2 rfl (by omega) (by omega) ⟨w.heap.size, 0, none⟩ 1 [((ps[0]'hj).1, C)] (by simp) (by
    intro p hp
    rw [List.mem_singleton] at hp
    subst hp
    have := s.o.one _ (List.getElem_mem hj)
    rw [hC] at this
    exact this) (fun i u hu => by
    rw [Addr.add_lit, Nat.zero_add]
    exact (alloc_cell w C.toArray 33 i).trans (by simpa using hu)) (by rw [hlen, List.length_singleton]; omega) (by
    intro p hp
    rw [List.mem_singleton] at hp
    subst hp
    have := s.o.els _ (List.getElem_mem hj)
    rw [hC] at this
    exact this.stay (hst.less (fun b _ h => h.1)))
  rw [hlen, List.length_singleton] at r o
  have hz10 := y.size
  have hz1 : ((w.alloc (.cells C.toArray 33)).drew).heap.size = w.heap.size + 1 := by show (w.alloc (.cells C.toArray 33)).heap.size = _; rw [alloc_size]
  have hbw : ∀ b, b < w.heap.size → b ≠ g → w10.heap[b]? = w.heap[b]? := fun b hb hne => (y.block b (by omega) (fun e => hne (Option.some.inj (show some b = some g from e)))).trans ((below_one w _).block b hb)
  have he := s.e.ofb (hbw w0.heap.size (by omega) (by omega))
  have hr := s.r.ofb (hbw (w0.heap.size + 1) (by omega) (by omega))
  have hd : RdM B a len cap N w0 w10 p q := ((s.rd.alloc s.hb (.cells C.toArray 33)).drew).grown (v := .slice (some ⟨g, 0, none⟩) 0 0) s.hb y (fun k hk => by have : g = k := Option.some.inj hk; omega)
  obtain ⟨W, hW⟩ : ∃ W, W = w10.setCell ⟨w0.heap.size, 1, none⟩ (.slice (some ⟨g', 0, none⟩) (fs.length + 1) c') := ⟨_, rfl⟩
  have hno : ¬ (S w0.heap.size ∨ w0.heap.size + 2 ≤ w0.heap.size) := fun h => by
    rcases h with h | h
    · have := (s.sb _ h).2; omega
    · omega
  have hsW : StayD (fun b => S b ∨ w0.heap.size + 2 ≤ b) w10 W := by rw [hW]; exact (StayD.refl _ w10).set w0.heap.size 1 _ (fun _ => hno)
  have hwW : StayD S w W := StayD.trans ⟨by omega, fun b hb h => hbw b hb (fun e => by have := (s.sb b h).2; omega)⟩ (hsW.less (fun _ _ h => .inl h))
  refine ⟨g', c', w10, r, he.cellAt (i := 1) rfl, he.2 1, ?_⟩
  rw [← hW]
  have oW := o.staySub hsW (fun x hx => .inr (o.row.lt x hx).1)
  have hg' := (o.row.lt g' rfl).1
  have hF := own_funs oW (.inr hg') (show h ≤ h + 2 by omega)
  have e1 : (ps ++ [((ps[0]'hj).1, C)]).map Prod.fst = fs ++ [(ps[0]'hj).1] := by rw [List.map_append, s.pf]; rfl
  rw [e1] at hF
  have e2 : fs[0]'(by omega) = (ps[0]'hj).1 := by simp only [← s.pf, List.getElem_map]
  have e3 := wtFuns_memW fs 0 (by omega)
  rw [e2] at e3
  have e4 : wtFuns (fs ++ [(ps[0]'hj).1]) = wtFuns fs + (ps[0]'hj).1.wt := by unfold wtFuns; rw [List.map_append, List.sum_append]; simp
  have e6 := wt_eqM us (fs ++ [(ps[0]'hj).1]) mn
  have hl : (fs ++ [(ps[0]'hj).1]).length = fs.length + 1 := by simp
  rw [hl] at e6
  refine bend_end (fs := fs ++ [(ps[0]'hj).1]) (fc := c') (mc := mc) (ua := ua) (uc := uc) (us := us) (ma := ma) (mn := mn) (q := q) (by rw [hW]; exact hd.set s.hb w0.heap.size 1 _ (Nat.le_refl _)) hN ?_ (by rw [hW]; exact hr.other w0.heap.size 1 _ (by omega)) ((s.u.stay hwW).less (fun _ _ h => .inl h)) hF (((s.m.stay hwW).less (fun _ _ h => .inl h)).imp (fun _ hW => kids_upsW (by omega) hW)) (by omega) (by have := hsW.1; omega) huc
  rw [hl, hW]
  exact he.set 1 _ (by simp)
theorem wtL_num : ∀ (l : List TE) (z : Int), wtL (l ++ [TE.node 1 z ⟨#[]⟩ ⟨#[]⟩ []]) = wtL l
  | [], z => by simp [wtL, TE.wt, emp_size]
  | x :: t, z => by simp only [List.cons_append, wtL, wtL_num t z]
/-- One number more behind Main, copied. -/
theorem oneMoreK {S : Nat → Prop} {h B len cap N p q : Nat} {a : Option Addr} {w0 w : World} {ua ma : Option Addr} {uc g c7 mc : Nat} {us : List ByteArray} {ps : List (TF × List Value)} {fs : List TF} {mn : List TE} (s : BS S h B a len cap w0 w N p q ua uc us g c7 ps fs ma mc mn) {gk ck : Nat} {wk w10 : World} {es : List (TE × List Value)} (o : OwnD (EltE h) 5 31 (fun b => S b ∨ w.heap.size ≤ b) w.heap.size wk (.slice (some ⟨gk, 0, none⟩) mn.length ck) es) (hef : es.map Prod.fst = mn) (bk : Below w.heap.size w wk)
    (hN : N ≤ 5 * h + 20) (hwt : (TM.mk us fs mn).wt ≤ 40000) (huc : us.length ≤ uc) (z : Int) (hb : Below wk.heap.size wk w10) :
    ∃ (gn cn : Nat) (wn : World), (Builtin.append_ #[25, 25] 25 #[.slice (some ⟨gk, 0, none⟩) mn.length ck, .slice (some ⟨w10.heap.size, 0, none⟩) 1 1]).run Tryz.prog (w10.alloc (.cells #[.int .i64 1, .int .i64 z, .string ⟨#[]⟩, .string ⟨#[]⟩, .slice none 0 0] 31)) = .ok (.slice (some ⟨gn, 0, none⟩) (mn.length + 1) cn) wn ∧
      wn.cell? ⟨w0.heap.size, 2, none⟩ = some (.slice ma mn.length mc) ∧ wn.frozen? ⟨w0.heap.size, 2, none⟩ = false ∧ BendR S h B a len cap w0 (wn.setCell ⟨w0.heap.size, 2, none⟩ (.slice (some ⟨gn, 0, none⟩) (mn.length + 1) cn)) p := by
  obtain ⟨ie, hei, hez0, hez1, hez2⟩ := info_parts infoE
  have hsz := s.sz
  have hgk := o.row.lt gk rfl
  have hel : es.length = mn.length := by rw [← hef, List.length_map]
  have e5 := wt_eqM us fs mn
  have hB : B < w.heap.size := by have := s.hb; omega
  have hzk := bk.size
  have hz10 := hb.size
  obtain ⟨X, hX⟩ : ∃ X, X = w10.alloc (.cells #[.int .i64 1, .int .i64 z, .string ⟨#[]⟩, .string ⟨#[]⟩, .slice none 0 0] 31) := ⟨_, rfl⟩
  have hXs : X.heap.size = w10.heap.size + 1 := by rw [hX, alloc_size]
  have k : RdM B a len cap 0 w X q q := by rw [hX]; exact (((RdM.refl s.rd.rd).below hB bk).below hB hb).alloc hB _
  have hst : StayD (fun b => S b ∨ w.heap.size ≤ b) wk X := by rw [hX]; exact (StayD.below hb).trans (StayD.below (below_one w10 _))
  have o1 := (o.mapK (R' := EltE (h + 2)) (fun _ _ _ e => e.upsK (by omega))).staySub hst (fun x hx => .inr (o.row.lt x hx).1)
  obtain ⟨gn, cn, wn, r, on, y, l⟩ := o1.moreW (by omega) 25 ie _ _ Tryz.underlying25 hei hez0 hez1 hez2 rfl (by omega) (by omega) ⟨w10.heap.size, 0, none⟩ 1 [((TE.node 1 z ⟨#[]⟩ ⟨#[]⟩ []), [.int .i64 1, .int .i64 z, .string ⟨#[]⟩, .string ⟨#[]⟩, .slice none 0 0])] (by simp) (by
    intro p hp
    rw [List.mem_singleton] at hp
    subst hp
    refine ⟨rfl, fun u hu => ?_⟩
    simp only [List.mem_cons, List.not_mem_nil, or_false] at hu
    rcases hu with rfl | rfl | rfl | rfl | rfl <;> rfl) (fun i u hu => by
    rw [Addr.add_lit, Nat.zero_add, hX, alloc_cell]
    simpa using hu) (by rw [hel, List.length_singleton]; omega) (by
    intro p hp
    rw [List.mem_singleton] at hp
    subst hp
    exact fun W _ => EltE.of (show IsE W 0 W.heap.size (h + 2) (.agg #[.int .i64 1, .int .i64 z, .string ⟨#[]⟩, .string ⟨#[]⟩, .slice none 0 0]) (.node 1 z ⟨#[]⟩ ⟨#[]⟩ []) from ⟨none, 0, rfl, ⟨Nat.zero_le _, Nat.zero_le _, Nat.zero_le _⟩, .inl rfl⟩))
  rw [hel, List.length_singleton] at r on
  have sn := s.next (k.grown (v := .slice (some ⟨gk, 0, none⟩) 0 0) hB y (fun x hx => by have : gk = x := Option.some.inj hx; omega))
  obtain ⟨W, hW⟩ : ∃ W, W = wn.setCell ⟨w0.heap.size, 2, none⟩ (.slice (some ⟨gn, 0, none⟩) (mn.length + 1) cn) := ⟨_, rfl⟩
  obtain ⟨hsW, hrd, hr, he, hz⟩ := sn.putE 2 (.slice (some ⟨gn, 0, none⟩) (mn.length + 1) cn) W hW
  refine ⟨gn, cn, wn, by rw [hX] at r; exact r, sn.e.cellAt (i := 2) rfl, sn.e.2 2, ?_⟩
  rw [← hW]
  have oW := on.staySub (hsW.less (fun b _ h => h.imp id (fun h => by omega))) (fun x hx => .inr (on.row.lt x hx).1)
  have hM := ((oW.readsSub (fun x hx => .inr (oW.row.lt x hx).1)).imp (fun _ hW => hW.kids)).less (S' := fun b => S b ∨ w0.heap.size + 2 ≤ b) (fun b _ h => h.imp id (fun h => by omega))
  rw [List.map_append, hef] at hM
  have hl : (mn ++ [TE.node 1 z ⟨#[]⟩ ⟨#[]⟩ []]).length = mn.length + 1 := by simp
  have e6 := wt_eqM us fs (mn ++ [TE.node 1 z ⟨#[]⟩ ⟨#[]⟩ []])
  rw [hl, wtL_num mn z] at e6
  refine bend_end (fc := c7) (mc := cn) (mn := mn ++ [TE.node 1 z ⟨#[]⟩ ⟨#[]⟩ []]) hrd (by omega) ?_ hr (sn.u2.stay hsW) (sn.f2.stay hsW) hM (by omega) hz huc
  rw [hl]
  exact he (by omega)
theorem wtWds_one (l : List ByteArray) (x : ByteArray) : wtWds (l ++ [x]) = wtWds l + x.size := by simp [wtWds]
def nmB (k : Nat) : ByteArray := if k = 0 then ⟨#[108, 105, 98]⟩ else if k = 1 then ⟨#[110, 111, 110, 101]⟩ else if k = 2 then ⟨#[65]⟩ else ⟨#[99, 111, 114, 101]⟩
theorem nmB_size (k : Nat) : (nmB k).size ≤ 8 := by unfold nmB; split <;> (try split) <;> (try split) <;> decide
/-- One word more behind the uses, copied; the word was drawn. -/
theorem oneMoreW {S : Nat → Prop} {h B len cap N p q : Nat} {a : Option Addr} {w0 w : World} {ua ma : Option Addr} {uc g c7 mc : Nat} {us : List ByteArray} {ps : List (TF × List Value)} {fs : List TF} {mn : List TE} (s : BS S h B a len cap w0 w N p q ua uc us g c7 ps fs ma mc mn) {gk ck : Nat} {wk wl w10 : World} (o : OwnD EltW 1 9 (fun b => S b ∨ w.heap.size ≤ b) w.heap.size wk (.slice (some ⟨gk, 0, none⟩) us.length ck) (wordsP us)) (bk : Below w.heap.size w wk) (bl : Below wk.heap.size wk wl)
    (hN : N + 1 ≤ 5 * h + 20) (hwt : (TM.mk us fs mn).wt ≤ 40000) (nm : ByteArray) (hnm : nm.size ≤ 8) (hrd10 : IsRd w10 B a len cap (q + 1)) (hmv : MovedG B wl w10) :
    ∃ (gn cn : Nat) (wn : World), (Builtin.append_ #[23, 23] 23 #[.slice (some ⟨gk, 0, none⟩) us.length ck, .slice (some ⟨w10.heap.size, 0, none⟩) 1 1]).run Tryz.prog (w10.alloc (.cells #[.string nm] 9)) = .ok (.slice (some ⟨gn, 0, none⟩) (us.length + 1) cn) wn ∧
      wn.cell? ⟨w0.heap.size, 0, none⟩ = some (.slice ua us.length uc) ∧ wn.frozen? ⟨w0.heap.size, 0, none⟩ = false ∧ BendR S h B a len cap w0 (wn.setCell ⟨w0.heap.size, 0, none⟩ (.slice (some ⟨gn, 0, none⟩) (us.length + 1) cn)) p := by
  obtain ⟨ie, hei, hez0, hez1, hez2⟩ := info_parts infoW
  have hsz := s.sz
  have hgk := o.row.lt gk rfl
  have e5 := wt_eqM us fs mn
  have hB : B < w.heap.size := by have := s.hb; omega
  have hb0 := s.hb
  have hzk := bk.size
  have hzl := bl.size
  have hz10 := hmv.1.size
  obtain ⟨X, hX⟩ : ∃ X, X = w10.alloc (.cells #[.string nm] 9) := ⟨_, rfl⟩
  have hXs : X.heap.size = w10.heap.size + 1 := by rw [hX, alloc_size]
  have k : RdM B a len cap 1 w X q (q + 1) := by
    have h1 := ((RdM.refl s.rd.rd).below hB bk).below hB bl
    have h2 : RdM B a len cap 1 wl w10 q (q + 1) := ⟨hrd10, hmv, by omega⟩
    rw [hX]
    exact ((h1.trans h2).more (by omega)).alloc hB _
  have hst : StayD (fun b => S b ∨ w.heap.size ≤ b) wk X := by
    rw [hX]
    refine ((StayD.below bl).trans (hmv.stay (fun b h => ?_))).trans (StayD.below (below_one w10 _))
    rcases h with h | h
    · exact (s.sb b h).1
    · omega
  have o1 := o.staySub hst (fun x hx => .inr (o.row.lt x hx).1)
  obtain ⟨gn, cn, wn, r, on, y, l⟩ := o1.moreW (by omega) 23 ie _ _ Tryz.underlying23 hei hez0 hez1 hez2 rfl (by omega) (by omega) ⟨w10.heap.size, 0, none⟩ 1 [(nm, [.string nm])] (by simp) (by
    intro p hp
    rw [List.mem_singleton] at hp
    subst hp
    refine ⟨rfl, fun u hu => ?_⟩
    simp only [List.mem_cons, List.not_mem_nil, or_false] at hu
    rcases hu with rfl
    rfl) (fun i u hu => by
    rw [Addr.add_lit, Nat.zero_add, hX, alloc_cell]
    simpa using hu) (by rw [wordsP_len, List.length_singleton]; omega) (by
    intro p hp
    rw [List.mem_singleton] at hp
    subst hp
    exact fun W _ => ⟨rfl, show nm.size ≤ maxLen by unfold maxLen; omega⟩)
  rw [wordsP_len, List.length_singleton] at r on
  have sn := s.next (k.grown (v := .slice (some ⟨gk, 0, none⟩) 0 0) hB y (fun x hx => by have : gk = x := Option.some.inj hx; omega))
  obtain ⟨W, hW⟩ : ∃ W, W = wn.setCell ⟨w0.heap.size, 0, none⟩ (.slice (some ⟨gn, 0, none⟩) (us.length + 1) cn) := ⟨_, rfl⟩
  obtain ⟨hsW, hrd, hr, he, hz⟩ := sn.putE 0 (.slice (some ⟨gn, 0, none⟩) (us.length + 1) cn) W hW
  refine ⟨gn, cn, wn, by rw [hX] at r; exact r, sn.e.cellAt (i := 0) rfl, sn.e.2 0, ?_⟩
  rw [← hW]
  have oW := on.staySub (hsW.less (fun b _ h => h.imp id (fun h => by omega))) (fun x hx => .inr (on.row.lt x hx).1)
  have ep : wordsP us ++ [(nm, [.string nm])] = wordsP (us ++ [nm]) := by simp [wordsP]
  rw [ep] at oW
  have hU := ((oW.readsSub (fun x hx => .inr (oW.row.lt x hx).1)).imp (fun _ hW => hW.wds)).less (S' := fun b => S b ∨ w0.heap.size + 2 ≤ b) (fun b _ h => h.imp id (fun h => by omega))
  have hl : (us ++ [nm]).length = us.length + 1 := by simp
  have e6 := wt_eqM (us ++ [nm]) fs mn
  rw [hl, wtWds_one] at e6
  refine bend_end (fc := c7) (mc := mc) (uc := cn) (us := us ++ [nm]) hrd (by omega) ?_ hr hU (sn.f2.stay hsW) (sn.m2.stay hsW) (by omega) hz (by rw [hl]; exact on.capLe)
  rw [hl]
  exact he (by omega)
end Go.Proofs.YtffabnmgcicpiaaGreat
