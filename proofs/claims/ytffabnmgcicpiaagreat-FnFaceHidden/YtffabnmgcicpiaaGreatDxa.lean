/- The walk of l22One: a drawn module with drawn faces. Conditions: the reader can be read. -/
import Derived.Test.YtffabnmgcicpiaaGreatDwb
import Derived.Test.YtffabnmgcicpiaaGreatDj
import Derived.Deep.DeepMust
import Derived.Deep.CutRange
namespace Go.Proofs.YtffabnmgcicpiaaGreat
open Go.RowKit Go.PlainAid

/-- Faces that can be read, from whatever cell on. -/
def FacesR (fa : Option Addr) (ys : List (YD × List Value)) (W : World) : Prop :=
  ys = [] ∨ ∃ g off : Nat, fa = some ⟨g, off, none⟩ ∧ g < W.heap.size ∧ ∀ j (hj : j < ys.length), (∀ i, i < 2 → W.cell? ⟨g, off + j * 2 + i, none⟩ = ys[j].2[i]?) ∧ EltY W ys[j].1 ys[j].2
theorem FacesR.of {fa : Option Addr} {ys : List (YD × List Value)} {W : World} (h : ReadD EltY 2 fa ys W) : FacesR fa ys W := by
  rcases h with h | ⟨g, h1, h2, h3⟩
  · exact .inl h
  · exact .inr ⟨g, 0, h1, h2, fun j hj => ⟨fun i hi => by rw [Nat.zero_add]; exact (h3 j hj).1 i hi, (h3 j hj).2.2⟩⟩
/-- What follows the first one. -/
theorem FacesR.tail {g : Nat} {ys : List (YD × List Value)} {W : World} (h : ReadD EltY 2 (some ⟨g, 0, none⟩) ys W) : FacesR (some ⟨g, 2, none⟩) ys.tail W := by
  rcases h with h | ⟨g', h1, h2, h3⟩
  · left; rw [h]; rfl
  · simp only [Option.some.injEq, Addr.mk.injEq, and_true] at h1
    subst h1
    refine .inr ⟨g, 2, rfl, h2, fun j hj => ?_⟩
    rw [List.length_tail] at hj
    have hj1 : j + 1 < ys.length := by omega
    obtain ⟨q1, _, q3⟩ := h3 (j + 1) hj1
    rw [List.getElem_tail]
    refine ⟨fun i hi => ?_, q3⟩
    have := q1 i hi
    rw [show (j + 1) * 2 + i = 2 + j * 2 + i by omega] at this
    exact this
/-- What the end of l22One makes. -/
theorem one_fin {B len cap N p q E : Nat} {a fa : Option Addr} {w0 X : World} {s1 s2 s3 : Option Addr} {l1 k1 l2 k2 l3 k3 : Nat} {m : TM} {ys : List (YD × List Value)} (hB : B < w0.heap.size) (hrd : RdM B a len cap N w0 X p q) (hN : N ≤ 600000)
    (he : Blk X E [.slice s1 l1 k1, .slice s2 l2 k2, .slice s3 l3 k3]) (hr : Blk X w0.heap.size nil3)
    (hm : KpD (fun b => w0.heap.size + 1 ≤ b) X (fun W => IsMod W 0 W.heap.size 9 (.agg #[.slice s1 l1 k1, .slice s2 l2 k2, .slice s3 l3 k3]) m)) (hf : KpD (fun b => w0.heap.size + 1 ≤ b) X (FacesR fa ys)) :
    X.cell? ⟨E, 0, none⟩ = some (.slice s1 l1 k1) ∧ X.cell? ⟨E, 1, none⟩ = some (.slice s2 l2 k2) ∧ X.cell? ⟨E, 2, none⟩ = some (.slice s3 l3 k3) ∧
      X.cell? ⟨w0.heap.size, 0, none⟩ = some (.slice none 0 0) ∧ X.cell? ⟨w0.heap.size, 1, none⟩ = some (.slice none 0 0) ∧ X.cell? ⟨w0.heap.size, 2, none⟩ = some (.slice none 0 0) ∧
      X.frozen? ⟨w0.heap.size, 0, none⟩ = false ∧ X.frozen? ⟨w0.heap.size, 1, none⟩ = false ∧ X.frozen? ⟨w0.heap.size, 2, none⟩ = false ∧
      ∀ F, F = ((X.setCell ⟨w0.heap.size, 0, none⟩ (.slice s1 l1 k1)).setCell ⟨w0.heap.size, 1, none⟩ (.slice s2 l2 k2)).setCell ⟨w0.heap.size, 2, none⟩ (.slice s3 l3 k3) →
        F.cell? ⟨w0.heap.size, 0, none⟩ = some (.slice s1 l1 k1) ∧ F.cell? ⟨w0.heap.size, 1, none⟩ = some (.slice s2 l2 k2) ∧ F.cell? ⟨w0.heap.size, 2, none⟩ = some (.slice s3 l3 k3) ∧
        KpD (fun b => w0.heap.size ≤ b) F (fun W => IsMod W 0 W.heap.size 9 (.agg #[.slice s1 l1 k1, .slice s2 l2 k2, .slice s3 l3 k3]) m) ∧ KpD (fun b => w0.heap.size ≤ b) F (FacesR fa ys) ∧ RdM B a len cap 600000 w0 F p q := by
  refine ⟨he.cellAt (i := 0) rfl, he.cellAt (i := 1) rfl, he.cellAt (i := 2) rfl, hr.cellAt (i := 0) rfl, hr.cellAt (i := 1) rfl, hr.cellAt (i := 2) rfl, hr.2 0, hr.2 1, hr.2 2, fun F hF => ?_⟩
  have hn := ((hr.set 0 (.slice s1 l1 k1) (by simp)).set 1 (.slice s2 l2 k2) (by simp)).set 2 (.slice s3 l3 k3) (by simp)
  have hst : StayD (fun b => w0.heap.size + 1 ≤ b) X F := by
    rw [hF]
    exact (((StayD.refl _ X).set w0.heap.size 0 _ (fun _ h => by omega)).set w0.heap.size 1 _ (fun _ h => by omega)).set w0.heap.size 2 _ (fun _ h => by omega)
  have hK := ((hrd.set hB w0.heap.size 0 (.slice s1 l1 k1) (by omega)).set hB w0.heap.size 1 (.slice s2 l2 k2) (by omega)).set hB w0.heap.size 2 (.slice s3 l3 k3) (by omega)
  rw [← hF] at hn hK
  exact ⟨hn.cellAt (i := 0) rfl, hn.cellAt (i := 1) rfl, hn.cellAt (i := 2) rfl, (hm.stay hst).less (fun b _ h => by omega), (hf.stay hst).less (fun b _ h => by omega), hK.more hN⟩
theorem IsMod.upsX {W : World} {lo n h h' : Nat} {v : Value} {m : TM} (hM : IsMod W lo n h v m) (hh : h ≤ h') : IsMod W lo n h' v m := by
  obtain ⟨a1, a2, a3, k1, k2, k3, hv, hz, q1, q2, q3⟩ := hM
  exact ⟨a1, a2, a3, k1, k2, k3, hv, hz, q1, q2.mono (fun _ _ e => e.ups hh) (fun _ _ _ => rfl) (Nat.le_refl _) (Nat.le_refl _), q3.mono (fun _ _ e => e.ups hh) (fun _ _ _ => rfl) (Nat.le_refl _) (Nat.le_refl _)⟩

set_option maxRecDepth 100000 in
set_option maxHeartbeats 16000000 in
theorem l22One_any (B : Nat) (a : Option Addr) (len cap : Nat) (w0 : World) (p : Nat) (h : IsRd w0 B a len cap p) (hB : B < w0.heap.size) (hp : p ≤ 400000000000) :
    Calls Tryz.prog 9 #[.pointer (some ⟨B, 0, none⟩)] w0 fun r w' => ∃ (v : Value) (m : TM) (fa : Option Addr) (fc : Nat) (ys : List (YD × List Value)) (q : Nat), r = .returned (.tuple #[v, .slice fa ys.length fc]) ∧ KpD (fun b => w0.heap.size ≤ b) w' (fun W => IsMod W 0 W.heap.size 9 v m) ∧ m.wt ≤ 90000 ∧ KpD (fun b => w0.heap.size ≤ b) w' (FacesR fa ys) ∧ (∀ y ∈ ys, YOk y.1) ∧ ys.length ≤ 3 ∧ RdM B a len cap 600000 w0 w' p q := by
  obtain ⟨W1, hW1⟩ : ∃ W1, W1 = w0.alloc (.cells #[.slice none 0 0, .slice none 0 0, .slice none 0 0] 27) := ⟨_, rfl⟩
  have hz1 : W1.heap.size = w0.heap.size + 1 := by rw [hW1]; simp
  have hr1 : Blk W1 w0.heap.size nil3 := by rw [hW1]; exact Blk.new w0 nil3 27
  have hd1 : RdM B a len cap 0 w0 W1 p p := by rw [hW1]; exact (RdM.refl h).alloc hB _
  have HMODS := hide (l22Mods_any B a len cap W1 p hd1.rd (by omega) (by omega))
  have HR1 := hide hr1
  have HD1 := hide hd1
  have HZ1 : Hid (W1.heap.size = w0.heap.size + 1 ∧ B < w0.heap.size ∧ p ≤ 400000000000) := hide ⟨hz1, hB, hp⟩
  clear hz1 hr1 hd1 h hB hp
  go_enter Tryz.func9, Tryz.ntmps9
  go_upto_region 1 with fail
  rw [← hW1]
  clear hW1
  go_upto_region 2 with (go_at_call 22; refine (unhide HMODS).mono ?_; rintro r w2 ⟨og, oc, ms, q2, rfl, hn1, hn4, hO, hok, hd2⟩; have HO := hide hO; have HOKS := hide hok; have HD2 := hide hd2; clear hO hok hd2 HMODS)
  obtain ⟨n, hn⟩ : ∃ n, ms.length = n := ⟨_, rfl⟩
  obtain ⟨k, rfl⟩ : ∃ k, n = k + 1 := ⟨n - 1, by omega⟩
  have hO := unhide HO
  rw [hn] at hO hn4 hn1 ⊢
  have hz := unhide HZ1
  have hgl := hO.row.lt og rfl
  have hkl : k < ms.length := by omega
  have hel := hO.els _ (List.getElem_mem hkl)
  obtain ⟨d1, d2, d3, hC, hM⟩ := hel.now
  have hmok := unhide HOKS _ (List.getElem_mem hkl)
  obtain ⟨x, hx⟩ : ∃ x, (ms[k]'hkl).1 = x := ⟨_, rfl⟩
  rw [hx] at hel hC hM hmok
  obtain ⟨s1, s2, s3, k1, k2, k3, hv, -, -, -, -⟩ := hM
  simp only [Value.agg.injEq, Array.mk.injEq, List.cons.injEq, and_true] at hv
  obtain ⟨rfl, rfl, rfl⟩ := hv
  obtain ⟨l1, hl1⟩ : ∃ l1, x.mod.uses.length = l1 := ⟨_, rfl⟩
  obtain ⟨l2, hl2⟩ : ∃ l2, x.mod.funs.length = l2 := ⟨_, rfl⟩
  obtain ⟨l3, hl3⟩ : ∃ l3, x.mod.main.length = l3 := ⟨_, rfl⟩
  rw [hl1, hl2, hl3] at hC
  have hkm : KpD (fun b => W1.heap.size ≤ b ∧ b < w2.heap.size) w2 (fun W => IsMod W 0 W.heap.size 7 (.agg #[.slice s1 l1 k1, .slice s2 l2 k2, .slice s3 l3 k3]) x.mod) := fun W hW => by
    obtain ⟨z1, z2, z3, e, hE⟩ := hel W (hW.less (fun b hb h => ⟨h.1, hb⟩))
    rw [hC] at e
    simp only [List.cons.injEq, and_true] at e
    obtain ⟨-, rfl, rfl, rfl⟩ := e
    exact hE
  have c1 := hO.cell k hkl 1 (by omega)
  have c2 := hO.cell k hkl 2 (by omega)
  have c3 := hO.cell k hkl 3 (by omega)
  rw [hC] at c1 c2 c3
  simp only [List.getElem?_cons_zero, List.getElem?_cons_succ] at c1 c2 c3
  obtain ⟨hdl, hO2⟩ := hO.cut1
  have hcap := hO.capLe
  have hwr : IntKind.i64.wrap (((k + 1 : Nat) : Int) - 1) = (k : Int) := by rw [IntKind.wrap_i64]; omega
  have hdll : ms.dropLast.length = k := by rw [List.length_dropLast]; omega
  have hk0 : (0 : Int) ≤ (k : Int) := by omega
  have hkc : (k : Int) ≤ (oc : Int) := by omega
  have hkk : (k : Int) < ((k + 1 : Nat) : Int) := by omega
  have hk3 : k ≤ 3 := by omega
  have hk3i : (k : Int) ≤ 3 := by omega
  have hwr2 : IntKind.i64.wrap (k : Int) = (k : Int) := by rw [IntKind.wrap_i64]; omega
  have hw2 := (unhide HD2).size
  obtain ⟨W3, hW3⟩ : ∃ W3, W3 = w2.alloc (.cells #[.slice s1 l1 k1, .slice s2 l2 k2, .slice s3 l3 k3] 27) := ⟨_, rfl⟩
  have hz3 : W3.heap.size = w2.heap.size + 1 := by rw [hW3]; simp
  have hst3 : ∀ S : Nat → Prop, StayD S w2 W3 := fun S => by rw [hW3]; exact StayD.below (below_one w2 _)
  have hfs := l22Faces_any (some ⟨og, 0, none⟩) oc ms.dropLast W3 (fun W hW => ((hO2.readsSub (fun g hg => by have : og = g := Option.some.inj hg; omega)).stay ((hst3 _).trans (StayD.below hW))).now) (fun y hy => unhide HOKS y (List.dropLast_subset ms hy)) (by rw [hdll]; omega)
  rw [hdll] at hfs
  have HFS := hide hfs
  have HKM := hide hkm
  have hd3 : RdM B a len cap 500000 w0 W3 p q2 := by rw [hW3]; exact (((unhide HD1).trans (unhide HD2)).more (by omega)).alloc hz.2.1 _
  have hr3 : Blk W3 w0.heap.size nil3 := ((unhide HR1).ofb ((unhide HD2).mv.2 _ (by omega) (by omega))).ofb (by rw [hW3]; exact (below_one w2 _).block _ (by omega))
  have he3 : Blk W3 w2.heap.size [.slice s1 l1 k1, .slice s2 l2 k2, .slice s3 l3 k3] := by rw [hW3]; exact Blk.new w2 [.slice s1 l1 k1, .slice s2 l2 k2, .slice s3 l3 k3] 27
  have HD3 := hide hd3
  have HR3 := hide hr3
  have HE3 := hide he3
  have HZ3 : Hid (W3.heap.size = w2.heap.size + 1 ∧ w0.heap.size + 1 ≤ w2.heap.size ∧ B < w0.heap.size ∧ p ≤ 400000000000 ∧ W1.heap.size = w0.heap.size + 1 ∧ k ≤ 3) := hide ⟨hz3, by omega, hz.2.1, hz.2.2, hz.1, by omega⟩
  have HMOK := hide hmok
  have HST3 := hide hst3
  clear hO hO2 hz hgl hkl hel hC hmok hx hl1 hl2 hl3 hkm hdl hcap hdll hw2 hz3 hfs hd3 hr3 he3 hst3 hn hn1 hn4 HO HOKS HD1 HR1 HD2
  go_upto_region 3 with fail
  rw [← hW3]
  clear hW3 c1 c2 c3
  go_upto_region 4 with (go_at_call 23; refine (unhide HFS).mono ?_; rintro r w4 ⟨fg, fc, ys, rfl, hyl, hY, hyok, hb4⟩; have HY := hide (hY.readsSub (fun g hg => (hY.row.lt g hg).1)); have HYC := hide (And.intro hY.capLe (And.intro hyl hyok)); have HB4 := hide hb4; clear hY hyok hb4 hyl)
  clear HFS
  have HPK := hide (pick_rd B a len cap q2 3 w4 ((unhide HD3).below (unhide HZ3).2.2.1 (unhide HB4)).rd (by have := (unhide HD3).le; have := (unhide HZ3).2.2.2.1; omega) (by omega))
  go_wp2_with fail
  refine (unhide HPK).mono ?_
  rintro r w5 ⟨i3, rfl, -, -, hk5, -⟩
  have hz3 := unhide HZ3
  have hb4s := (unhide HB4).size
  have hk5s := hk5.size
  have hd4 := (unhide HD3).below hz3.2.2.1 (unhide HB4)
  have hd5 : RdM B a len cap 500001 w0 w5 p (q2 + 1) := hd4.trans hk5
  have hr5 : Blk w5 w0.heap.size nil3 := ((unhide HR3).below (unhide HB4) (by omega)).ofb (hk5.mv.2 _ (by omega) (by omega))
  have he5 : Blk w5 w2.heap.size [.slice s1 l1 k1, .slice s2 l2 k2, .slice s3 l3 k3] := ((unhide HE3).below (unhide HB4) (by omega)).ofb (hk5.mv.2 _ (by omega) (by omega))
  have hm5 : KpD (fun b => W1.heap.size ≤ b ∧ b < w2.heap.size) w5 (fun W => IsMod W 0 W.heap.size 7 (.agg #[.slice s1 l1 k1, .slice s2 l2 k2, .slice s3 l3 k3]) x.mod) := (unhide HKM).stay (((unhide HST3 _).trans (StayD.below (unhide HB4))).trans (hk5.mv.stay (fun b h => by have := h.1; omega)))
  have hf5 : KpD (fun b => W3.heap.size ≤ b) w5 (ReadD EltY 2 (some ⟨fg, 0, none⟩) ys) := (unhide HY).stay (hk5.mv.stay (fun b h => by omega))
  have HD5 := hide hd5
  have HR5 := hide hr5
  have HE5 := hide he5
  have HM5 := hide hm5
  have HF5 := hide hf5
  have HZ5 : Hid (W3.heap.size ≤ w5.heap.size) := hide (by omega)
  clear hd4 hd5 hr5 hm5 hf5 hk5 hk5s hb4s HPK HD3 HR3 HE3 HKM HST3 HY HB4
  by_cases hi : i3 = 0
  · subst hi
    have hle := (unhide HD5).le
    have hz5 := unhide HZ5
    have HBD := hide (l22Bend_any 7 (fun b => W1.heap.size ≤ b ∧ b < w2.heap.size) B a len cap _ x.mod w5 (q2 + 1) (unhide HD5).rd (by omega) (by omega) (fun b hb => ⟨by have := hb.1; omega, by have := hb.2; omega⟩) (unhide HM5) (unhide HMOK).wt (by omega))
    have e0 := he5.cellAt (i := 0) rfl
    have e1 := he5.cellAt (i := 1) rfl
    have e2 := he5.cellAt (i := 2) rfl
    clear hle hz5 hz3 he5
    go_upto_region 6 with (go_at_call 25; refine (unhide HBD).mono ?_; rintro r w6 ⟨v6, m6, q6, rfl, hm6, hw6, hd6⟩; obtain ⟨u1, u2, u3, j1, j2, j3, hv6, -, -, -, -⟩ := hm6.now; subst hv6; have he6 := (unhide HE5).ofb (hd6.mv.2 w2.heap.size (by have := unhide HZ5; have := unhide HZ3; omega) (by have := unhide HZ3; omega)); have t0 := he6.cellAt (i := 0) rfl; have t1 := he6.cellAt (i := 1) rfl; have t2 := he6.cellAt (i := 2) rfl; have f0 := he6.2 0; have f1 := he6.2 1; have f2 := he6.2 2; have HE6 := hide he6; have HM6 := hide hm6; have HW6 := hide hw6; have HD6 := hide hd6; clear he6 hm6 hw6 hd6)
    obtain ⟨n1, hn1⟩ : ∃ n1, m6.uses.length = n1 := ⟨_, rfl⟩
    obtain ⟨n2, hn2⟩ : ∃ n2, m6.funs.length = n2 := ⟨_, rfl⟩
    obtain ⟨n3, hn3⟩ : ∃ n3, m6.main.length = n3 := ⟨_, rfl⟩
    rw [hn1, hn2, hn3] at HM6 ⊢
    obtain ⟨X, hX⟩ : ∃ X, X = ((w6.setCell ⟨w2.heap.size, 0, none⟩ (.slice u1 n1 j1)).setCell ⟨w2.heap.size, 1, none⟩ (.slice u2 n2 j2)).setCell ⟨w2.heap.size, 2, none⟩ (.slice u3 n3 j3) := ⟨_, rfl⟩
    rw [← hX]
    have hz3 := unhide HZ3
    have hz5 := unhide HZ5
    have hs6 := (unhide HD6).size
    have hd : RdM B a len cap 500100 w0 X p q6 := by
      rw [hX]
      exact (((((unhide HD5).trans (unhide HD6)).more (by omega)).set hz3.2.2.1 w2.heap.size 0 (.slice u1 n1 j1) (by omega)).set hz3.2.2.1 w2.heap.size 1 (.slice u2 n2 j2) (by omega)).set hz3.2.2.1 w2.heap.size 2 (.slice u3 n3 j3) (by omega)
    have hr : Blk X w0.heap.size nil3 := by
      rw [hX]
      exact ((((unhide HR5).ofb ((unhide HD6).mv.2 _ (by omega) (by omega))).other w2.heap.size 0 _ (by omega)).other w2.heap.size 1 _ (by omega)).other w2.heap.size 2 _ (by omega)
    have he : Blk X w2.heap.size [.slice u1 n1 j1, .slice u2 n2 j2, .slice u3 n3 j3] := by
      rw [hX]
      exact (((unhide HE6).set 0 (.slice u1 n1 j1) (by simp)).set 1 (.slice u2 n2 j2) (by simp)).set 2 (.slice u3 n3 j3) (by simp)
    have hst : StayD (fun b => b ≠ w2.heap.size) w6 X := by
      rw [hX]
      exact (((StayD.refl _ w6).set w2.heap.size 0 _ (fun _ h => h rfl)).set w2.heap.size 1 _ (fun _ h => h rfl)).set w2.heap.size 2 _ (fun _ h => h rfl)
    have hm : KpD (fun b => w0.heap.size + 1 ≤ b) X (fun W => IsMod W 0 W.heap.size 9 (.agg #[.slice u1 n1 j1, .slice u2 n2 j2, .slice u3 n3 j3]) m6) := ((unhide HM6).stay (hst.less (fun b _ h => by
      rcases h with h | h
      · have := h.2; omega
      · omega))).less (fun b _ h => by
      rcases h with h | h
      · have := h.1; omega
      · omega)
    have hf : KpD (fun b => W3.heap.size ≤ b) X (ReadD EltY 2 (some ⟨fg, 0, none⟩) ys) := (unhide HF5).stay (((unhide HD6).mv.stay (fun b h => by omega)).trans (hst.less (fun b _ h => by omega)))
    have hwm := unhide HW6
    have hXs : W3.heap.size ≤ X.heap.size := by
      have : X.heap.size = w6.heap.size := by rw [hX]; simp [World.setCell]
      omega
    clear e0 e1 e2 t0 t1 t2 f0 f1 f2 hst hX HE6 HM6 HW6 HD6 HE5 HM5 HF5 HD5 HR5 hn1 hn2 hn3 HBD hs6 hz5
    obtain ⟨qX, hqX⟩ : ∃ qX, qX = q6 := ⟨_, rfl⟩
    rw [← hqX] at hd
    have HXS : Hid (W3.heap.size ≤ X.heap.size) := hide hXs
    have HP12 := hide (pick_rd B a len cap qX 12 X hd.rd (by have := hd.le; omega) (by omega))
    have HD := hide hd
    have HR := hide hr
    have HE := hide he
    have HM := hide hm
    have HF := hide hf
    have HWM := hide hwm
    clear hd hr he hm hf hwm hqX
    go_wp2_with fail
    refine (unhide HP12).mono ?_
    rintro r Y ⟨i12, rfl, -, -, hkY, -⟩
    have hxs := unhide HXS
    have hYs := hkY.size
    have hdY : RdM B a len cap 500200 w0 Y p (qX + 1) := ((unhide HD).trans hkY).more (by omega)
    have hrY := (unhide HR).ofb (hkY.mv.2 w0.heap.size (by omega) (by omega))
    have heY := (unhide HE).ofb (hkY.mv.2 w2.heap.size (by omega) (by omega))
    have hmY := (unhide HM).stay (hkY.mv.stay (fun b h => by omega))
    have hfY := (unhide HF).stay (hkY.mv.stay (fun b h => by omega))
    have hfs : KpD (fun b => w0.heap.size + 1 ≤ b) Y (FacesR (some ⟨fg, 0, none⟩) ys) := (hfY.imp (fun _ h => FacesR.of h)).less (fun b _ h => by omega)
    have hft : KpD (fun b => w0.heap.size + 1 ≤ b) Y (FacesR (some ⟨fg, 2, none⟩) ys.tail) := (hfY.imp (fun _ h => FacesR.tail h)).less (fun b _ h => by omega)
    have FIN1 := hide (one_fin hz3.2.2.1 hdY (by omega) heY hrY hmY hfs)
    have FIN2 := hide (one_fin hz3.2.2.1 hdY (by omega) heY hrY hmY hft)
    have FIN3 := hide (one_fin (fa := some ⟨fg, 0, none⟩) (ys := []) hz3.2.2.1 hdY (by omega) heY hrY hmY (fun _ _ => .inl rfl))
    have HYC2 := hide (show ys.length ≤ 3 by have := (unhide HYC).2.1; omega)
    clear hxs hYs hdY hrY heY hmY hfY hfs hft hkY hz3 HP12 HD HR HE HM HF
    by_cases hi12 : i12 = 0
    · subst hi12
      by_cases hy0 : ys.length = 0
      · have hng : ¬ (0 : Int) < (ys.length : Int) := by omega
        clear hy0
        obtain ⟨c0, c1, c2, r0, r1, r2, f0, f1, f2, hfin⟩ := unhide FIN1
        have HFIN := hide hfin
        clear hfin
        go_wp2
        obtain ⟨F, hF⟩ : ∃ F, F = ((Y.setCell ⟨w0.heap.size, 0, none⟩ (.slice u1 n1 j1)).setCell ⟨w0.heap.size, 1, none⟩ (.slice u2 n2 j2)).setCell ⟨w0.heap.size, 2, none⟩ (.slice u3 n3 j3) := ⟨_, rfl⟩
        obtain ⟨g0, g1, g2, hm, hf, hr⟩ := unhide HFIN F hF
        rw [← hF]
        refine bodyPost_ret (v := .tuple #[.agg #[.slice u1 n1 j1, .slice u2 n2 j2, .slice u3 n3 j3], .slice (some ⟨fg, 0, none⟩) ys.length fc]) (by simp [results, Tryz.results9, go_sem, g0, g1, g2]) rfl ?_
        exact ⟨_, m6, _, _, ys, _, rfl, hm, unhide HWM, hf, fun y hy => (unhide HYC).2.2 y hy, unhide HYC2, hr⟩
      · have hng : (0 : Int) < (ys.length : Int) := by omega
        have hcl := (unhide HYC).1
        by_cases hc1 : fc = 1
        · subst hc1
          have hl1 : ys.length = 1 := by omega
          clear hy0
          rw [hl1] at hng ⊢
          obtain ⟨c0, c1, c2, r0, r1, r2, f0, f1, f2, hfin⟩ := unhide FIN3
          have HFIN := hide hfin
          clear hfin
          go_wp2
          obtain ⟨F, hF⟩ : ∃ F, F = ((Y.setCell ⟨w0.heap.size, 0, none⟩ (.slice u1 n1 j1)).setCell ⟨w0.heap.size, 1, none⟩ (.slice u2 n2 j2)).setCell ⟨w0.heap.size, 2, none⟩ (.slice u3 n3 j3) := ⟨_, rfl⟩
          obtain ⟨g0, g1, g2, hm, hf, hr⟩ := unhide HFIN F hF
          rw [← hF]
          refine bodyPost_ret (v := .tuple #[.agg #[.slice u1 n1 j1, .slice u2 n2 j2, .slice u3 n3 j3], .slice (some ⟨fg, 0, none⟩) 0 0]) (by simp [results, Tryz.results9, go_sem, g0, g1, g2]) rfl ?_
          exact ⟨_, m6, _, _, ([] : List (YD × List Value)), _, rfl, hm, unhide HWM, hf, fun y hy => absurd hy List.not_mem_nil, by simp, hr⟩
        · have h1c : (1 : Int) ≤ (ys.length : Int) := by omega
          have h2c : (ys.length : Int) ≤ (fc : Int) := by omega
          have h3c : 1 < fc := by omega
          have htl : ys.tail.length = ys.length - 1 := List.length_tail
          obtain ⟨c0, c1, c2, r0, r1, r2, f0, f1, f2, hfin⟩ := unhide FIN2
          have HFIN := hide hfin
          clear hfin
          go_wp2
          obtain ⟨F, hF⟩ : ∃ F, F = ((Y.setCell ⟨w0.heap.size, 0, none⟩ (.slice u1 n1 j1)).setCell ⟨w0.heap.size, 1, none⟩ (.slice u2 n2 j2)).setCell ⟨w0.heap.size, 2, none⟩ (.slice u3 n3 j3) := ⟨_, rfl⟩
          obtain ⟨g0, g1, g2, hm, hf, hr⟩ := unhide HFIN F hF
          rw [← hF]
          refine bodyPost_ret (v := .tuple #[.agg #[.slice u1 n1 j1, .slice u2 n2 j2, .slice u3 n3 j3], .slice (some ⟨fg, 2, none⟩) (ys.length - 1) (fc - 1)]) (by simp [results, Tryz.results9, go_sem, g0, g1, g2]) rfl ?_
          exact ⟨_, m6, _, _, ys.tail, _, by rw [htl], hm, unhide HWM, hf, fun y hy => (unhide HYC).2.2 y (List.mem_of_mem_tail hy), by have := unhide HYC2; simp; omega, hr⟩
    · have hz12 : (i12 == 0) = false := by simpa using hi12
      clear hi12
      obtain ⟨c0, c1, c2, r0, r1, r2, f0, f1, f2, hfin⟩ := unhide FIN1
      have HFIN := hide hfin
      clear hfin
      go_wp2
      obtain ⟨F, hF⟩ : ∃ F, F = ((Y.setCell ⟨w0.heap.size, 0, none⟩ (.slice u1 n1 j1)).setCell ⟨w0.heap.size, 1, none⟩ (.slice u2 n2 j2)).setCell ⟨w0.heap.size, 2, none⟩ (.slice u3 n3 j3) := ⟨_, rfl⟩
      obtain ⟨g0, g1, g2, hm, hf, hr⟩ := unhide HFIN F hF
      rw [← hF]
      refine bodyPost_ret (v := .tuple #[.agg #[.slice u1 n1 j1, .slice u2 n2 j2, .slice u3 n3 j3], .slice (some ⟨fg, 0, none⟩) ys.length fc]) (by simp [results, Tryz.results9, go_sem, g0, g1, g2]) rfl ?_
      exact ⟨_, m6, _, _, ys, _, rfl, hm, unhide HWM, hf, fun y hy => (unhide HYC).2.2 y hy, unhide HYC2, hr⟩
  · have hz30 : (i3 == 0) = false := by simpa using hi
    clear hi
    go_upto_region 6 with fail
    have hz5 := unhide HZ5
    obtain ⟨X, hX⟩ : ∃ X, X = w5 := ⟨_, rfl⟩
    have hd : RdM B a len cap 500100 w0 X p (q2 + 1) := by rw [hX]; exact (unhide HD5).more (by omega)
    have hr : Blk X w0.heap.size nil3 := by rw [hX]; exact unhide HR5
    have he : Blk X w2.heap.size [.slice s1 l1 k1, .slice s2 l2 k2, .slice s3 l3 k3] := by rw [hX]; exact he5
    have hm : KpD (fun b => w0.heap.size + 1 ≤ b) X (fun W => IsMod W 0 W.heap.size 9 (.agg #[.slice s1 l1 k1, .slice s2 l2 k2, .slice s3 l3 k3]) x.mod) := by
      rw [hX]
      exact ((unhide HM5).imp (fun _ h => h.upsX (by omega))).less (fun b _ h => by have := h.1; omega)
    have hf : KpD (fun b => W3.heap.size ≤ b) X (ReadD EltY 2 (some ⟨fg, 0, none⟩) ys) := by rw [hX]; exact unhide HF5
    have hwm : x.mod.wt ≤ 90000 := by have := (unhide HMOK).wt; omega
    have hX5 : W3.heap.size ≤ X.heap.size := by rw [hX]; exact hz5
    rw [← hX]
    clear hX he5 hz30 HE5 HM5 HF5 HD5 HR5 hz5
    obtain ⟨qX, hqX⟩ : ∃ qX, qX = q2 + 1 := ⟨_, rfl⟩
    rw [← hqX] at hd
    have HXS : Hid (W3.heap.size ≤ X.heap.size) := hide hX5
    have HP12 := hide (pick_rd B a len cap qX 12 X hd.rd (by have := hd.le; omega) (by omega))
    have HD := hide hd
    have HR := hide hr
    have HE := hide he
    have HM := hide hm
    have HF := hide hf
    have HWM := hide hwm
    clear hd hr he hm hf hwm hqX
    go_wp2_with fail
    refine (unhide HP12).mono ?_
    rintro r Y ⟨i12, rfl, -, -, hkY, -⟩
    have hxs := unhide HXS
    have hYs := hkY.size
    have hdY : RdM B a len cap 500200 w0 Y p (qX + 1) := ((unhide HD).trans hkY).more (by omega)
    have hrY := (unhide HR).ofb (hkY.mv.2 w0.heap.size (by omega) (by omega))
    have heY := (unhide HE).ofb (hkY.mv.2 w2.heap.size (by omega) (by omega))
    have hmY := (unhide HM).stay (hkY.mv.stay (fun b h => by omega))
    have hfY := (unhide HF).stay (hkY.mv.stay (fun b h => by omega))
    have hfs : KpD (fun b => w0.heap.size + 1 ≤ b) Y (FacesR (some ⟨fg, 0, none⟩) ys) := (hfY.imp (fun _ h => FacesR.of h)).less (fun b _ h => by omega)
    have hft : KpD (fun b => w0.heap.size + 1 ≤ b) Y (FacesR (some ⟨fg, 2, none⟩) ys.tail) := (hfY.imp (fun _ h => FacesR.tail h)).less (fun b _ h => by omega)
    have FIN1 := hide (one_fin hz3.2.2.1 hdY (by omega) heY hrY hmY hfs)
    have FIN2 := hide (one_fin hz3.2.2.1 hdY (by omega) heY hrY hmY hft)
    have FIN3 := hide (one_fin (fa := some ⟨fg, 0, none⟩) (ys := []) hz3.2.2.1 hdY (by omega) heY hrY hmY (fun _ _ => .inl rfl))
    have HYC2 := hide (show ys.length ≤ 3 by have := (unhide HYC).2.1; omega)
    clear hxs hYs hdY hrY heY hmY hfY hfs hft hkY hz3 HP12 HD HR HE HM HF
    by_cases hi12 : i12 = 0
    · subst hi12
      by_cases hy0 : ys.length = 0
      · have hng : ¬ (0 : Int) < (ys.length : Int) := by omega
        clear hy0
        obtain ⟨c0, c1, c2, r0, r1, r2, f0, f1, f2, hfin⟩ := unhide FIN1
        have HFIN := hide hfin
        clear hfin
        go_wp2
        obtain ⟨F, hF⟩ : ∃ F, F = ((Y.setCell ⟨w0.heap.size, 0, none⟩ (.slice s1 l1 k1)).setCell ⟨w0.heap.size, 1, none⟩ (.slice s2 l2 k2)).setCell ⟨w0.heap.size, 2, none⟩ (.slice s3 l3 k3) := ⟨_, rfl⟩
        obtain ⟨g0, g1, g2, hm, hf, hr⟩ := unhide HFIN F hF
        rw [← hF]
        refine bodyPost_ret (v := .tuple #[.agg #[.slice s1 l1 k1, .slice s2 l2 k2, .slice s3 l3 k3], .slice (some ⟨fg, 0, none⟩) ys.length fc]) (by simp [results, Tryz.results9, go_sem, g0, g1, g2]) rfl ?_
        exact ⟨_, x.mod, _, _, ys, _, rfl, hm, unhide HWM, hf, fun y hy => (unhide HYC).2.2 y hy, unhide HYC2, hr⟩
      · have hng : (0 : Int) < (ys.length : Int) := by omega
        have hcl := (unhide HYC).1
        by_cases hc1 : fc = 1
        · subst hc1
          have hl1 : ys.length = 1 := by omega
          clear hy0
          rw [hl1] at hng ⊢
          obtain ⟨c0, c1, c2, r0, r1, r2, f0, f1, f2, hfin⟩ := unhide FIN3
          have HFIN := hide hfin
          clear hfin
          go_wp2
          obtain ⟨F, hF⟩ : ∃ F, F = ((Y.setCell ⟨w0.heap.size, 0, none⟩ (.slice s1 l1 k1)).setCell ⟨w0.heap.size, 1, none⟩ (.slice s2 l2 k2)).setCell ⟨w0.heap.size, 2, none⟩ (.slice s3 l3 k3) := ⟨_, rfl⟩
          obtain ⟨g0, g1, g2, hm, hf, hr⟩ := unhide HFIN F hF
          rw [← hF]
          refine bodyPost_ret (v := .tuple #[.agg #[.slice s1 l1 k1, .slice s2 l2 k2, .slice s3 l3 k3], .slice (some ⟨fg, 0, none⟩) 0 0]) (by simp [results, Tryz.results9, go_sem, g0, g1, g2]) rfl ?_
          exact ⟨_, x.mod, _, _, ([] : List (YD × List Value)), _, rfl, hm, unhide HWM, hf, fun y hy => absurd hy List.not_mem_nil, by simp, hr⟩
        · have h1c : (1 : Int) ≤ (ys.length : Int) := by omega
          have h2c : (ys.length : Int) ≤ (fc : Int) := by omega
          have h3c : 1 < fc := by omega
          have htl : ys.tail.length = ys.length - 1 := List.length_tail
          obtain ⟨c0, c1, c2, r0, r1, r2, f0, f1, f2, hfin⟩ := unhide FIN2
          have HFIN := hide hfin
          clear hfin
          go_wp2
          obtain ⟨F, hF⟩ : ∃ F, F = ((Y.setCell ⟨w0.heap.size, 0, none⟩ (.slice s1 l1 k1)).setCell ⟨w0.heap.size, 1, none⟩ (.slice s2 l2 k2)).setCell ⟨w0.heap.size, 2, none⟩ (.slice s3 l3 k3) := ⟨_, rfl⟩
          obtain ⟨g0, g1, g2, hm, hf, hr⟩ := unhide HFIN F hF
          rw [← hF]
          refine bodyPost_ret (v := .tuple #[.agg #[.slice s1 l1 k1, .slice s2 l2 k2, .slice s3 l3 k3], .slice (some ⟨fg, 2, none⟩) (ys.length - 1) (fc - 1)]) (by simp [results, Tryz.results9, go_sem, g0, g1, g2]) rfl ?_
          exact ⟨_, x.mod, _, _, ys.tail, _, by rw [htl], hm, unhide HWM, hf, fun y hy => (unhide HYC).2.2 y (List.mem_of_mem_tail hy), by have := unhide HYC2; simp; omega, hr⟩
    · have hz12 : (i12 == 0) = false := by simpa using hi12
      clear hi12
      obtain ⟨c0, c1, c2, r0, r1, r2, f0, f1, f2, hfin⟩ := unhide FIN1
      have HFIN := hide hfin
      clear hfin
      go_wp2
      obtain ⟨F, hF⟩ : ∃ F, F = ((Y.setCell ⟨w0.heap.size, 0, none⟩ (.slice s1 l1 k1)).setCell ⟨w0.heap.size, 1, none⟩ (.slice s2 l2 k2)).setCell ⟨w0.heap.size, 2, none⟩ (.slice s3 l3 k3) := ⟨_, rfl⟩
      obtain ⟨g0, g1, g2, hm, hf, hr⟩ := unhide HFIN F hF
      rw [← hF]
      refine bodyPost_ret (v := .tuple #[.agg #[.slice s1 l1 k1, .slice s2 l2 k2, .slice s3 l3 k3], .slice (some ⟨fg, 0, none⟩) ys.length fc]) (by simp [results, Tryz.results9, go_sem, g0, g1, g2]) rfl ?_
      exact ⟨_, x.mod, _, _, ys, _, rfl, hm, unhide HWM, hf, fun y hy => (unhide HYC).2.2 y hy, unhide HYC2, hr⟩
end Go.Proofs.YtffabnmgcicpiaaGreat
