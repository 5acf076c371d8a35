/- The walk of l22Turn. Conditions: what is handed in can be read, and stays. -/
import Derived.Test.YtffabnmgcicpiaaGreatDka
import Derived.Deep.DeepMust
import Derived.Deep.CutRange
namespace Go.Proofs.YtffabnmgcicpiaaGreat
open Go.RowKit Go.PlainAid


/-- The contract of turning an expression of height at most h. -/
def TurnD (h : Nat) : Prop := ∀ (S : Nat → Prop) (B : Nat) (a : Option Addr) (len cap : Nat) (v : Value) (e : TE) (w : World) (p : Nat), IsRd w B a len cap p → B < w.heap.size → p + 10 * h ≤ 600000000000 → (∀ b, S b → b ≠ B ∧ b < w.heap.size) → KeepE S h w v e → e.wt ≤ 40000 → h ≤ 1000 →
  Calls Tryz.prog 40 #[.pointer (some ⟨B, 0, none⟩), v] w fun r w' => ∃ (v' : Value) (e' : TE) (q : Nat), r = .returned v' ∧ KeepE (fun b => S b ∨ w.heap.size ≤ b) (h + 2) w' v' e' ∧ e'.wt ≤ 2 * e.wt + 100 ∧ RdM B a len cap (5 * h + 5) w w' p q

set_option maxRecDepth 100000 in
set_option maxHeartbeats 64000000 in
theorem turn_succ (h : Nat) (IH : TurnD h) : TurnD (h + 1) := by
  intro S B a len cap v e w0 p hrd hB hp hSB hke hwt hh
  obtain ⟨k, m, nm, md, kids⟩ := e
  have hke0 := hke
  obtain ⟨sa, sc, rfl, ⟨hz1, hz2, hz3⟩, -⟩ := hke.now
  have hkk : KpD S w0 (fun W => IsKids (IsE W 0 W.heap.size h) W 0 W.heap.size sa kids) := fun W hW => by
    obtain ⟨sa', sc', hv, -, hk⟩ := hke W hW
    simp only [Value.agg.injEq, Array.mk.injEq, List.cons.injEq, Value.slice.injEq, and_true] at hv
    obtain ⟨-, -, -, -, rfl, -, -⟩ := hv
    exact hk
  have hw5 : (TE.node k m nm md kids).wt = nm.size + md.size + (kids.length + wtL kids) := by simp [TE.wt]
  rw [hw5] at hwt
  unfold maxLen at hz1 hz2 hz3
  obtain ⟨W2, hW2⟩ : ∃ W2, W2 = (w0.alloc (.cells #[.int .i64 k, .int .i64 m, .string nm, .string md, .slice sa kids.length sc] 31)).alloc (.cells #[.int .i64 0, .int .i64 0, .string ⟨#[]⟩, .string ⟨#[]⟩, .slice none 0 0] 31) := ⟨_, rfl⟩
  have hz2' : W2.heap.size = w0.heap.size + 2 := by rw [hW2]; simp
  have hE2 : Blk W2 w0.heap.size [.int .i64 k, .int .i64 m, .string nm, .string md, .slice sa kids.length sc] := by rw [hW2]; exact (Blk.new w0 [.int .i64 k, .int .i64 m, .string nm, .string md, .slice sa kids.length sc] 31).old _ (by simp)
  have hR2 : Blk W2 (w0.heap.size + 1) [.int .i64 0, .int .i64 0, .string ⟨#[]⟩, .string ⟨#[]⟩, .slice none 0 0] := by
    have := Blk.new (w0.alloc (.cells #[.int .i64 k, .int .i64 m, .string nm, .string md, .slice sa kids.length sc] 31)) [.int .i64 0, .int .i64 0, .string ⟨#[]⟩, .string ⟨#[]⟩, .slice none 0 0] 31
    rw [alloc_size] at this
    rw [hW2]; exact this
  have hrd2 : RdM B a len cap 0 w0 W2 p p := by rw [hW2]; exact ((RdM.refl hrd).alloc hB _).alloc hB _
  have HKE := hide hke0
  have HKK := hide hkk
  have HE2 := hide hE2
  have HR2 := hide hR2
  have HD2 := hide hrd2
  have HZ2 : Hid (W2.heap.size = w0.heap.size + 2 ∧ B < w0.heap.size) := hide ⟨hz2', hB⟩
  have HSB := hide hSB
  have HWT := hide hwt
  have HW5 := hide hw5
  have HNM : Hid (nm.size ≤ 40000 ∧ md.size ≤ 40000 ∧ kids.length ≤ 40000) := hide (by omega)
  have e0 := hE2.cellAt (i := 0) rfl
  have e1 := hE2.cellAt (i := 1) rfl
  have e2 := hE2.cellAt (i := 2) rfl
  have e3 := hE2.cellAt (i := 3) rfl
  have e4 := hE2.cellAt (i := 4) rfl
  have x4 := hE2.2 4
  have HPK := hide (fun (n : Int) (hn : n ≤ 1000000) => pick_rd B a len cap p n W2 hrd2.rd (by omega) hn)
  clear hke hke0 hkk hwt hw5 hz2' hE2 hR2 hrd2 hrd hB hSB hz1 hz2
  go_enter Tryz.func40, Tryz.ntmps40
  go_upto_region 1 with fail
  rw [← hW2]
  clear hW2
  go_cut [14] from 6 to 14 (fun c wc => ∃ (bb : Bool) (q : Nat), c = .bool bb ∧ (bb = true → 0 < kids.length) ∧ Hid (RdM B a len cap 1 w0 wc p q) ∧ Hid (Blk wc w0.heap.size [.int .i64 k, .int .i64 m, .string nm, .string md, .slice sa kids.length sc]) ∧ Hid (Blk wc (w0.heap.size + 1) [.int .i64 0, .int .i64 0, .string ⟨#[]⟩, .string ⟨#[]⟩, .slice none 0 0]) ∧ Hid (w0.heap.size + 2 ≤ wc.heap.size))
  case first =>
    by_cases h0 : kids.length = 0
    · have hng : ¬ (0 : Int) < (kids.length : Int) := by omega
      clear h0
      go_wp2
      go_meet
      exact ⟨_, p, rfl, fun h => by simp at h, hide ((unhide HD2).more (by omega)), HE2, HR2, hide (by have := unhide HZ2; omega)⟩
    · have hng : (0 : Int) < (kids.length : Int) := by omega
      have hnn : 0 < kids.length := by omega
      have HNN := hide hnn
      clear h0
      go_wp2_with fail
      refine (unhide HPK 3 (by omega)).mono ?_
      rintro r w3 ⟨i3, rfl, -, -, hk3, -⟩
      have hz := unhide HZ2
      have H3 := hide (And.intro ((unhide HD2).trans hk3) (And.intro ((unhide HE2).ofb (hk3.mv.2 w0.heap.size (by omega) (by omega))) ((unhide HR2).ofb (hk3.mv.2 (w0.heap.size + 1) (by omega) (by omega)))))
      have HS3 : Hid (Hid (w0.heap.size + 2 ≤ w3.heap.size)) := hide (hide (by have := hk3.size; omega))
      clear hk3 hz
      go_wp2
      go_meet
      exact ⟨_, p + 1, rfl, fun _ => unhide HNN, hide ((unhide H3).1.more (by omega)), hide (unhide H3).2.1, hide (unhide H3).2.2, unhide HS3⟩
  case rest =>
    obtain ⟨bb, q, rfl, hbb, HR, HE, HRB, HZC⟩ := hcut
    have HBB := hide hbb
    clear hbb HE2 HR2 HD2 e0 e1 e2 e3 e4 x4 HPK
    have hq : q ≤ p + 1 := (unhide HR).le
    cases bb with
    | true =>
      have hzz := unhide HZC
      have hz2 := unhide HZ2
      have hnn := unhide HBB rfl
      have hkc : KpD S wc (fun W => IsKids (IsE W 0 W.heap.size h) W 0 W.heap.size sa kids) := (unhide HKK).stay ((unhide HR).mv.stay (fun b hb => (unhide HSB b hb).1))
      obtain ⟨g, c7, w7, ps, hpf, r7, o7, d7, b7⟩ := copyK hkc sc (by have := unhide HNM; omega) (unhide HR) (by omega)
      have hee := (unhide HE).below b7 (by omega)
      have hrb7 := (unhide HRB).below b7 (by omega)
      have hgl := o7.row.lt g rfl
      have hpl : ps.length = kids.length := by rw [← hpf, List.length_map]
      obtain ⟨W8, hW8⟩ : ∃ W8, W8 = w7.setCell ⟨w0.heap.size, 4, none⟩ (.slice (some ⟨g, 0, none⟩) kids.length c7) := ⟨_, rfl⟩
      have hSB' : ∀ R, R < w0.heap.size + 2 → R ≠ B → w0.heap.size ≤ R → ¬ (S R ∨ wc.heap.size ≤ R) := fun R h1 h2 h3 h => by
        rcases h with h | h
        · have := (unhide HSB R h).2; omega
        · omega
      have hst8 : StayD (fun b => S b ∨ wc.heap.size ≤ b) w7 W8 := by rw [hW8]; exact (StayD.refl _ w7).set w0.heap.size 4 _ (fun _ => hSB' _ (by omega) (by omega) (Nat.le_refl _))
      have o8 := o7.staySub hst8 (fun x hx => .inr (o7.row.lt x hx).1)
      have d8 : RdM B a len cap 1 w0 W8 p q := by rw [hW8]; exact d7.set (by omega) w0.heap.size 4 (.slice (some ⟨g, 0, none⟩) kids.length c7) (Nat.le_refl _)
      have e8 : Blk W8 w0.heap.size [.int .i64 k, .int .i64 m, .string nm, .string md, .slice (some ⟨g, 0, none⟩) kids.length c7] := by rw [hW8]; exact hee.set 4 (.slice (some ⟨g, 0, none⟩) kids.length c7) (by simp)
      have b8 : Blk W8 (w0.heap.size + 1) [.int .i64 0, .int .i64 0, .string ⟨#[]⟩, .string ⟨#[]⟩, .slice none 0 0] := by rw [hW8]; exact hrb7.other w0.heap.size 4 (.slice (some ⟨g, 0, none⟩) kids.length c7) (by omega)
      have hs8 : W8.heap.size = w7.heap.size := by rw [hW8]; simp [World.setCell]
      have HPN := hide (pick_rd B a len cap q (kids.length : Int) W8 d8.rd (by omega) (by have := unhide HNM; omega))
      have c4 := (unhide HE).cellAt (i := 4) rfl
      have c4' : (wc.alloc (.cells #[] 31)).cell? ⟨w0.heap.size, 4, none⟩ = some (.slice sa kids.length sc) := ((below_one wc _).cell (p := ⟨w0.heap.size, 4, none⟩) (by show w0.heap.size < _; omega)).trans c4
      have f4 := hee.cellAt (i := 4) rfl
      have g4 := hee.2 4
      have H8 := hide (And.intro o8 (And.intro d8 (And.intro e8 (And.intro b8 hpf))))
      have HZ8 : Hid (w7.heap.size = W8.heap.size ∧ wc.heap.size ≤ g ∧ g < W8.heap.size ∧ w0.heap.size + 2 ≤ wc.heap.size ∧ B < w0.heap.size ∧ ps.length = kids.length) := hide (by omega)
      have HSB2 := hide hSB'
      clear hzz hz2 hkc o7 d7 b7 hee hrb7 hgl hpl hSB' hst8 o8 d8 e8 b8 hs8 hpf
      go_wp2_with (at_builtin; refine wpList_runD rfl (.tmp 15) (.tmp 17) 25 rfl rfl (.slice (some ⟨wc.heap.size, 0, none⟩) 0 0) (.slice sa kids.length sc) rfl rfl (.slice (some ⟨g, 0, none⟩) kids.length c7) w7 r7 ?_)
      rw [← hW8]
      clear hW8
      refine (unhide HPN).mono ?_
      rintro r w9 ⟨i9, rfl, j0, j1, hk9, -⟩
      have j2 := j1 (by omega)
      obtain ⟨j, rfl⟩ := Int.eq_ofNat_of_zero_le j0
      have hjk : j < kids.length := by omega
      obtain ⟨o8, d8, e8, b8, hpf⟩ := unhide H8
      have hz8 := unhide HZ8
      have hSBB : ∀ b, (S b ∨ wc.heap.size ≤ b) → b ≠ B := fun b h => by
        rcases h with h | h
        · exact (unhide HSB b h).1
        · omega
      have o9 := o8.staySub (hk9.mv.stay hSBB) (fun x hx => .inr (o8.row.lt x hx).1)
      have d9 := d8.trans hk9
      have e9 := e8.ofb (hk9.mv.2 w0.heap.size (by omega) (by omega))
      have b9 := b8.ofb (hk9.mv.2 (w0.heap.size + 1) (by omega) (by omega))
      have hjl : j < ps.length := by omega
      obtain ⟨x, hx⟩ : ∃ x, (ps[j]'hjl).1 = x := ⟨_, rfl⟩
      have hel := o9.els _ (List.getElem_mem hjl)
      rw [hx] at hel
      obtain ⟨y0, y1, y2, y3, y4, hC, hxe⟩ := hel.now
      obtain ⟨ek, em, en, ed, ea, el, ec, hv⟩ := IsE.five hxe
      simp only [Value.agg.injEq, Array.mk.injEq, List.cons.injEq, and_true] at hv
      obtain ⟨rfl, rfl, rfl, rfl, rfl⟩ := hv
      have hxk : KeepE (fun b => (((S b ∨ wc.heap.size ≤ b) ∧ b ≠ g) ∧ b < w9.heap.size)) h w9.drew (.agg #[.int .i64 ek, .int .i64 em, .string en, .string ed, .slice ea el ec]) x := fun W hW => by
        obtain ⟨z0, z1, z2, z3, z4, e, hE⟩ := (hel.less (S' := fun b => (((S b ∨ wc.heap.size ≤ b) ∧ b ≠ g) ∧ b < w9.heap.size)) (fun b hb h => ⟨⟨h.1, fun e => h.2 (by rw [e]; rfl)⟩, hb⟩)) W hW
        rw [hC] at e
        simp only [List.cons.injEq, and_true] at e
        obtain ⟨rfl, rfl, rfl, rfl, rfl⟩ := e
        exact hE
      have hxw : x.wt ≤ wtL kids := by
        have := wtL_memK kids j hjk
        have he : kids[j] = x := by rw [← hx]; simp only [← hpf, List.getElem_map]
        rw [he] at this; exact this
      have hq9 := d9.le
      have hz9 := hk9.size
      have HIH := hide (IH (fun b => (((S b ∨ wc.heap.size ≤ b) ∧ b ≠ g) ∧ b < w9.heap.size)) B a len cap _ x w9.drew (q + 1) (hk9.drew).rd (by show B < w9.heap.size; omega) (by omega) (fun b hb => ⟨hSBB b hb.1.1, hb.2⟩) hxk (by have := unhide HWT; omega) (by omega))
      have hcl : ∀ i, i < 5 → w9.cell? ⟨g, j * 5 + i, none⟩ = ([.int .i64 ek, .int .i64 em, .string en, .string ed, .slice ea el ec])[i]? := fun i hi => by rw [← hC]; exact o9.cell j hjl i hi
      have hrw := o9.row
      rw [hz8.2.2.2.2.2] at hrw
      have HSK := hide (fun (w' : World) (hm : ∀ b, b < w9.heap.size → b ≠ B → w'.heap[b]? = w9.heap[b]?) => show w'.cell? ⟨w0.heap.size, 4, none⟩ = some (.slice (some ⟨g, 0, none⟩) kids.length c7) ∧ w'.cell? ⟨g, j * 5, none⟩ = some (.int .i64 ek) ∧ w'.cell? ⟨g, j * 5 + 1, none⟩ = some (.int .i64 em) ∧ w'.cell? ⟨g, j * 5 + 2, none⟩ = some (.string en) ∧ w'.cell? ⟨g, j * 5 + 3, none⟩ = some (.string ed) ∧ w'.cell? ⟨g, j * 5 + 4, none⟩ = some (.slice ea el ec) ∧ w'.frozen? ⟨g, j * 5, none⟩ = false ∧ w'.frozen? ⟨g, j * 5 + 1, none⟩ = false ∧ w'.frozen? ⟨g, j * 5 + 2, none⟩ = false ∧ w'.frozen? ⟨g, j * 5 + 3, none⟩ = false ∧ w'.frozen? ⟨g, j * 5 + 4, none⟩ = false from by
        have hg : w'.heap[g]? = w9.heap[g]? := hm g (by omega) (by omega)
        refine ⟨(World.cell?_of_block (w := w9) (a := ⟨w0.heap.size, 4, none⟩) (hm w0.heap.size (by omega) (by omega))).trans (e9.1 4), ?_, ?_, ?_, ?_, ?_, ?_, ?_, ?_, ?_, ?_⟩
        · exact (World.cell?_of_block (w := w9) (a := ⟨g, j * 5, none⟩) hg).trans (hcl 0 (by omega))
        · exact (World.cell?_of_block (w := w9) (a := ⟨g, j * 5 + 1, none⟩) hg).trans (hcl 1 (by omega))
        · exact (World.cell?_of_block (w := w9) (a := ⟨g, j * 5 + 2, none⟩) hg).trans (hcl 2 (by omega))
        · exact (World.cell?_of_block (w := w9) (a := ⟨g, j * 5 + 3, none⟩) hg).trans (hcl 3 (by omega))
        · exact (World.cell?_of_block (w := w9) (a := ⟨g, j * 5 + 4, none⟩) hg).trans (hcl 4 (by omega))
        · exact (World.frozen?_of_block (w := w9) (a := ⟨g, j * 5, none⟩) hg).trans (hrw.frozenAt (j * 5))
        · exact (World.frozen?_of_block (w := w9) (a := ⟨g, j * 5 + 1, none⟩) hg).trans (hrw.frozenAt (j * 5 + 1))
        · exact (World.frozen?_of_block (w := w9) (a := ⟨g, j * 5 + 2, none⟩) hg).trans (hrw.frozenAt (j * 5 + 2))
        · exact (World.frozen?_of_block (w := w9) (a := ⟨g, j * 5 + 3, none⟩) hg).trans (hrw.frozenAt (j * 5 + 3))
        · exact (World.frozen?_of_block (w := w9) (a := ⟨g, j * 5 + 4, none⟩) hg).trans (hrw.frozenAt (j * 5 + 4)))
      obtain ⟨s4, s0, s1, s2, s3, s5, -⟩ := unhide HSK w9 (fun _ _ _ => rfl)
      have H9 := hide (And.intro o9 (And.intro d9 (And.intro e9 (And.intro b9 (And.intro hC (And.intro hxw hpf))))))
      have HXX := hide hx
      have HSBB := hide hSBB
      have HZ9 : Hid (W8.heap.size ≤ w9.heap.size ∧ j < kids.length ∧ j < ps.length) := hide ⟨hz9, hjk, hjl⟩
      clear o8 d8 e8 b8 hz8 hSBB o9 d9 e9 b9 hel hC hxe hxk hxw hq9 hz9 hcl hrw hk9 j0 j1 j2 hpf c4 c4' f4 g4 hx
      go_wp2
      go_region_with (first | (go_at_call 40; refine (unhide HIH).mono ?_; rintro r w10 ⟨v5, e5, q5, rfl, hke5, hwt5, hk10⟩; obtain ⟨fk, fm, fn, fd, fa, fl, fc, rfl⟩ := IsE.five hke5.now; obtain ⟨t4, t0, t1, t2, t3, t5, f0, f1, f2, f3, f5⟩ := unhide HSK w10 (fun b hb hn => hk10.mv.2 b hb hn); have HKE5 := hide hke5; have HWT5 := hide hwt5; have HK10 := hide hk10; clear hke5 hwt5 hk10))
      all_goals
        obtain ⟨o9, d9, e9, b9, hC, hxw, hpf⟩ := unhide H9
        have hz8 := unhide HZ8
        have hz9 := unhide HZ9
        have hjl := hz9.2.2
        have hk10 := unhide HK10
        have hzk : w9.heap.size ≤ w10.heap.size := hk10.size
        have hs10 : StayD (fun b => S b ∨ wc.heap.size ≤ b) w9 w10 := hk10.mv.stay (unhide HSBB)
        have o10 := (o9.staySub hs10 (fun y hy => .inr (o9.row.lt y hy).1)).mapK (R' := EltE (h + 2)) (fun _ _ _ hE => hE.upsK (by omega))
        have hgl := o9.row.lt g rfl
        have r1 := o10.raw.put j hjl 0 (by omega) (.int .i64 fk) rfl e5 [.int .i64 ek, .int .i64 em, .string en, .string ed, .slice ea el ec] hC
        have r2 := r1.put j (by simpa using hjl) 1 (by omega) (.int .i64 fm) rfl e5 [.int .i64 fk, .int .i64 em, .string en, .string ed, .slice ea el ec] (by simp)
        simp only [List.set_set] at r2
        have r3 := r2.put j (by simpa using hjl) 2 (by omega) (.string fn) rfl e5 [.int .i64 fk, .int .i64 fm, .string en, .string ed, .slice ea el ec] (by simp)
        simp only [List.set_set] at r3
        have r4 := r3.put j (by simpa using hjl) 3 (by omega) (.string fd) rfl e5 [.int .i64 fk, .int .i64 fm, .string fn, .string ed, .slice ea el ec] (by simp)
        simp only [List.set_set] at r4
        have r5 := r4.put j (by simpa using hjl) 4 (by omega) (.slice fa fl fc) rfl e5 [.int .i64 fk, .int .i64 fm, .string fn, .string fd, .slice ea el ec] (by simp)
        simp only [List.set_set] at r5
        have hs0 : StayD (fun b => b ≠ g) w10 (((((w10.setCell ⟨g, j * 5, none⟩ (.int .i64 fk)).setCell ⟨g, j * 5 + 1, none⟩ (.int .i64 fm)).setCell ⟨g, j * 5 + 2, none⟩ (.string fn)).setCell ⟨g, j * 5 + 3, none⟩ (.string fd)).setCell ⟨g, j * 5 + 4, none⟩ (.slice fa fl fc)) := ((((((StayD.refl (fun b => b ≠ g) w10).set g (j * 5) (.int .i64 fk) (fun _ hb => hb rfl)).set g (j * 5 + 1) (.int .i64 fm) (fun _ hb => hb rfl)).set g (j * 5 + 2) (.string fn) (fun _ hb => hb rfl)).set g (j * 5 + 3) (.string fd) (fun _ hb => hb rfl)).set g (j * 5 + 4) (.slice fa fl fc) (fun _ hb => hb rfl))
        have hd11 := ((((((d9.trans (⟨hk10.rd, (MovedG.refl B w9).drew.trans hk10.mv, hk10.le⟩ : RdM B a len cap (5 * h + 5) w9 w10 (q + 1) q5)).set (by omega) g (j * 5) (.int .i64 fk) (by omega)).set (by omega) g (j * 5 + 1) (.int .i64 fm) (by omega)).set (by omega) g (j * 5 + 2) (.string fn) (by omega)).set (by omega) g (j * 5 + 3) (.string fd) (by omega)).set (by omega) g (j * 5 + 4) (.slice fa fl fc) (by omega))
        have he11 := ((((((e9.ofb (hk10.mv.2 w0.heap.size (by show w0.heap.size < w9.heap.size; omega) (by omega))).other g (j * 5) (.int .i64 fk) (by omega)).other g (j * 5 + 1) (.int .i64 fm) (by omega)).other g (j * 5 + 2) (.string fn) (by omega)).other g (j * 5 + 3) (.string fd) (by omega)).other g (j * 5 + 4) (.slice fa fl fc) (by omega))
        have hb11 := ((((((b9.ofb (hk10.mv.2 (w0.heap.size + 1) (by show w0.heap.size + 1 < w9.heap.size; omega) (by omega))).other g (j * 5) (.int .i64 fk) (by omega)).other g (j * 5 + 1) (.int .i64 fm) (by omega)).other g (j * 5 + 2) (.string fn) (by omega)).other g (j * 5 + 3) (.string fd) (by omega)).other g (j * 5 + 4) (.slice fa fl fc) (by omega))
        obtain ⟨W11, hW11⟩ : ∃ W11, W11 = (((((w10.setCell ⟨g, j * 5, none⟩ (.int .i64 fk)).setCell ⟨g, j * 5 + 1, none⟩ (.int .i64 fm)).setCell ⟨g, j * 5 + 2, none⟩ (.string fn)).setCell ⟨g, j * 5 + 3, none⟩ (.string fd)).setCell ⟨g, j * 5 + 4, none⟩ (.slice fa fl fc)) := ⟨_, rfl⟩
        have r5' : RowD 5 31 wc.heap.size W11 (.slice (some ⟨g, 0, none⟩) kids.length c7) _ := hW11 ▸ r5
        rw [← hW11] at hs0 hd11 he11 hb11 ⊢
        have hel5 : KpD (OffD (fun b => S b ∨ wc.heap.size ≤ b) (some g)) W11 (fun W => EltE (h + 2) W e5 [.int .i64 fk, .int .i64 fm, .string fn, .string fd, .slice fa fl fc]) := (((unhide HKE5).less (fun b _ hb => by
          rcases hb with hb | hb
          · exact ⟨hb.1.1, fun e => hb.1.2 (Option.some.inj e)⟩
          · have h9 : w9.heap.size ≤ b := hb
            exact ⟨.inr (by omega), fun e => by have := Option.some.inj e; omega⟩)).stay (hs0.less (fun b _ hb e => hb.2 (by rw [e])))).imp (fun W hW => EltE.of hW)
        have htn := o10.turned hs0 j e5 [.int .i64 fk, .int .i64 fm, .string fn, .string fd, .slice fa fl fc] r5' hel5
        have hkd := htn.readsSub (fun y hy => .inr (htn.row.lt y hy).1)
        have hwk := wtL_setK kids j hz9.2.1 e5
        have hkx : kids[j] = x := by rw [← unhide HXX]; simp only [← hpf, List.getElem_map]
        rw [hkx] at hwk
        have hwt5 := unhide HWT5
        have hwn : (TE.node k m nm md (kids.set j e5)).wt ≤ 2 * (TE.node k m nm md kids).wt + 100 := by
          have h1 := unhide HW5
          have h2 : (TE.node k m nm md (kids.set j e5)).wt = nm.size + md.size + ((kids.set j e5).length + wtL (kids.set j e5)) := by simp [TE.wt]
          rw [List.length_set] at h2
          omega
        have c0 := he11.cellAt (i := 0) rfl
        have c1 := he11.cellAt (i := 1) rfl
        have c2 := he11.cellAt (i := 2) rfl
        have c3 := he11.cellAt (i := 3) rfl
        have c4 := he11.cellAt (i := 4) rfl
        have b0 := (hb11).cellAt (i := 0) rfl
        have y0 := (hb11).2 0
        have b1 := (hb11).cellAt (i := 1) rfl
        have y1 := (hb11).2 1
        have b2 := (hb11).cellAt (i := 2) rfl
        have y2 := (hb11).2 2
        have b3 := (hb11).cellAt (i := 3) rfl
        have y3 := (hb11).2 3
        have b4 := (hb11).cellAt (i := 4) rfl
        have y4 := (hb11).2 4
        have HFIN := hide (And.intro hkd (And.intro hd11 (And.intro hb11 (And.intro hwn hpf))))
        have HZF : Hid (w0.heap.size + 2 ≤ wc.heap.size) := hide hz8.2.2.2.1
        clear o9 d9 e9 b9 hC hxw hpf hz8 hz9 hk10 hzk hs10 o10 hgl r1 r2 r3 r4 r5 hs0 hd11 he11 hb11 hW11 r5' hel5 htn hkd hwk hkx hwt5 hwn hjl s4 s0 s1 s2 s3 s5 t4 t0 t1 t2 t3 t5 f0 f1 f2 f3 f5
        go_wp2
        have hn := (((((((((((unhide HFIN).2.2.1).set 0 (.int .i64 k) (by simp))).set 1 (.int .i64 m) (by simp))).set 2 (.string nm) (by simp))).set 3 (.string md) (by simp))).set 4 (.slice (some ⟨g, 0, none⟩) kids.length c7) (by simp))
        have hK := (((((((((((unhide HFIN).2.1).set (by have := unhide HZ2; omega) (w0.heap.size + 1) 0 (.int .i64 k) (by omega))).set (by have := unhide HZ2; omega) (w0.heap.size + 1) 1 (.int .i64 m) (by omega))).set (by have := unhide HZ2; omega) (w0.heap.size + 1) 2 (.string nm) (by omega))).set (by have := unhide HZ2; omega) (w0.heap.size + 1) 3 (.string md) (by omega))).set (by have := unhide HZ2; omega) (w0.heap.size + 1) 4 (.slice (some ⟨g, 0, none⟩) kids.length c7) (by omega))
        obtain ⟨FW, hF⟩ : ∃ FW, FW = (((((W11.setCell ⟨(w0.heap.size + 1), 0, none⟩ (.int .i64 k)).setCell ⟨(w0.heap.size + 1), 1, none⟩ (.int .i64 m)).setCell ⟨(w0.heap.size + 1), 2, none⟩ (.string nm)).setCell ⟨(w0.heap.size + 1), 3, none⟩ (.string md)).setCell ⟨(w0.heap.size + 1), 4, none⟩ (.slice (some ⟨g, 0, none⟩) kids.length c7)) := ⟨_, rfl⟩
        rw [← hF] at hn hK ⊢
        have g0 := hn.cellAt (i := 0) rfl
        have g1 := hn.cellAt (i := 1) rfl
        have g2 := hn.cellAt (i := 2) rfl
        have g3 := hn.cellAt (i := 3) rfl
        have g4 := hn.cellAt (i := 4) rfl
        refine bodyPost_ret (v := .agg #[.int .i64 k, .int .i64 m, .string nm, .string md, .slice (some ⟨g, 0, none⟩) kids.length c7]) (by simp [results, Tryz.results40, go_sem, g0, g1, g2, g3, g4]) rfl ?_
        refine ⟨_, .node k m nm md (kids.set j e5), _, rfl, ?_, (unhide HFIN).2.2.2.1, hK.more (by omega)⟩
        have hs1 : StayD (fun b => S b ∨ wc.heap.size ≤ b) W11 FW := by
          have h9 := unhide HZF
          have h8 := unhide HZ2
          have hno := unhide HSB2 (w0.heap.size + 1) (by omega) (by omega) (by omega)
          rw [hF]
          exact ((((((StayD.refl _ W11).set (w0.heap.size + 1) 0 (_) (fun _ => hno)).set (w0.heap.size + 1) 1 (_) (fun _ => hno)).set (w0.heap.size + 1) 2 (_) (fun _ => hno)).set (w0.heap.size + 1) 3 (_) (fun _ => hno)).set (w0.heap.size + 1) 4 (_) (fun _ => hno))
        have hkd := ((unhide HFIN).1.stay hs1).imp (fun W hW => hW.kids)
        rw [List.map_set, (unhide HFIN).2.2.2.2] at hkd
        exact (keepE_nodeW (n := kids.length) hkd (by simp) (by have := unhide HNM; omega) (by have := unhide HNM; omega) (by have := unhide HNM; omega)).less (fun b _ hb => hb.imp id (fun h9 => by have := unhide HZF; omega))
    | false =>
      have HP8 := hide (pick_rd B a len cap q 8 wc (unhide HR).rd (by omega) (by omega))
      go_wp2_with fail
      refine (unhide HP8).mono ?_
      rintro r w5 ⟨i8, rfl, j0, j1, hk5, -⟩
      have j2 := j1 (by omega)
      have HR5 : Hid (RdM B a len cap 2 w0 w5 p (q + 1)) := hide ((unhide HR).trans hk5)
      have HE5 := hide ((unhide HE).ofb (hk5.mv.2 w0.heap.size (by have := unhide HZC; omega) (by have := unhide HZ2; omega)))
      have HB5 := hide ((unhide HRB).ofb (hk5.mv.2 (w0.heap.size + 1) (by have := unhide HZC; omega) (by have := unhide HZ2; omega)))
      have HZ5 : Hid (w0.heap.size + 2 ≤ w5.heap.size) := hide (by have := hk5.size; have := unhide HZC; omega)
      clear hk5 j1 HP8 HR HE HRB HZC
      have h8 : i8 = 0 ∨ i8 = 1 ∨ i8 = 2 ∨ i8 = 3 ∨ i8 = 4 ∨ i8 = 5 ∨ i8 = 6 ∨ i8 = 7 := by omega
      clear j0 j2
      rcases h8 with rfl | rfl | rfl | rfl | rfl | rfl | rfl | rfl
      · have HP9 := hide (pick_rd B a len cap (q + 1) 9 w5 (unhide HR5).rd (by have := (unhide HR5).le; omega) (by omega))
        go_wp2_with fail
        refine (unhide HP9).mono ?_
        rintro r w6 ⟨z, rfl, -, -, hk6, -⟩
        go_wp2_with fail
        refine (l22NumE_any _ _).mono ?_
        rintro r w7 ⟨rfl, hb7⟩
        have hrb := ((unhide HB5).ofb (hk6.mv.2 (w0.heap.size + 1) (by have := unhide HZ5; omega) (by have := unhide HZ2; omega))).below hb7 (by have := unhide HZ5; have := hk6.size; omega)
        have b0 := (hrb).cellAt (i := 0) rfl
        have y0 := (hrb).2 0
        have b1 := (hrb).cellAt (i := 1) rfl
        have y1 := (hrb).2 1
        have b2 := (hrb).cellAt (i := 2) rfl
        have y2 := (hrb).2 2
        have b3 := (hrb).cellAt (i := 3) rfl
        have y3 := (hrb).2 3
        have b4 := (hrb).cellAt (i := 4) rfl
        have y4 := (hrb).2 4
        go_wp2
        have hst := ((((((StayD.refl (fun b => b ≠ w0.heap.size + 1) w7).set (w0.heap.size + 1) 0 (.int .i64 1) (fun _ h => by (try dsimp only at h); omega)).set (w0.heap.size + 1) 1 (.int .i64 z) (fun _ h => by (try dsimp only at h); omega)).set (w0.heap.size + 1) 2 (.string ⟨#[]⟩) (fun _ h => by (try dsimp only at h); omega)).set (w0.heap.size + 1) 3 (.string ⟨#[]⟩) (fun _ h => by (try dsimp only at h); omega)).set (w0.heap.size + 1) 4 (.slice none 0 0) (fun _ h => by (try dsimp only at h); omega))
        have hn := ((((((((((hrb).set 0 (.int .i64 1) (by simp))).set 1 (.int .i64 z) (by simp))).set 2 (.string ⟨#[]⟩) (by simp))).set 3 (.string ⟨#[]⟩) (by simp))).set 4 (.slice none 0 0) (by simp))
        have hK := (((((((((((((unhide HR5).trans hk6).below (by have := unhide HZ2; omega) hb7)).set (by have := unhide HZ2; omega) (w0.heap.size + 1) 0 (.int .i64 1) (by omega))).set (by have := unhide HZ2; omega) (w0.heap.size + 1) 1 (.int .i64 z) (by omega))).set (by have := unhide HZ2; omega) (w0.heap.size + 1) 2 (.string ⟨#[]⟩) (by omega))).set (by have := unhide HZ2; omega) (w0.heap.size + 1) 3 (.string ⟨#[]⟩) (by omega))).set (by have := unhide HZ2; omega) (w0.heap.size + 1) 4 (.slice none 0 0) (by omega))
        obtain ⟨FW, hF⟩ : ∃ FW, FW = (((((w7.setCell ⟨(w0.heap.size + 1), 0, none⟩ (.int .i64 1)).setCell ⟨(w0.heap.size + 1), 1, none⟩ (.int .i64 z)).setCell ⟨(w0.heap.size + 1), 2, none⟩ (.string ⟨#[]⟩)).setCell ⟨(w0.heap.size + 1), 3, none⟩ (.string ⟨#[]⟩)).setCell ⟨(w0.heap.size + 1), 4, none⟩ (.slice none 0 0)) := ⟨_, rfl⟩
        rw [← hF] at hst hn hK ⊢
        have g0 := hn.cellAt (i := 0) rfl
        have g1 := hn.cellAt (i := 1) rfl
        have g2 := hn.cellAt (i := 2) rfl
        have g3 := hn.cellAt (i := 3) rfl
        have g4 := hn.cellAt (i := 4) rfl
        refine bodyPost_ret (v := .agg #[.int .i64 1, .int .i64 z, .string ⟨#[]⟩, .string ⟨#[]⟩, .slice none 0 0]) (by simp [results, Tryz.results40, go_sem, g0, g1, g2, g3, g4]) rfl ?_
        exact ⟨_, .node 1 z ⟨#[]⟩ ⟨#[]⟩ [], _, rfl, keepE_leaf (Nat.zero_le _) (Nat.zero_le _), by have := unhide HW5; simp [TE.wt, wtL, emp_size], hK.more (by omega)⟩
      · have HP3 := hide (pick_rd B a len cap (q + 1) 3 w5 (unhide HR5).rd (by have := (unhide HR5).le; omega) (by omega))
        go_wp2_with fail
        refine (unhide HP3).mono ?_
        rintro r w6 ⟨z, rfl, -, -, hk6, -⟩
        have hrb := (unhide HB5).ofb (hk6.mv.2 (w0.heap.size + 1) (by have := unhide HZ5; omega) (by have := unhide HZ2; omega))
        have b0 := (hrb).cellAt (i := 0) rfl
        have y0 := (hrb).2 0
        have b1 := (hrb).cellAt (i := 1) rfl
        have y1 := (hrb).2 1
        have b2 := (hrb).cellAt (i := 2) rfl
        have y2 := (hrb).2 2
        have b3 := (hrb).cellAt (i := 3) rfl
        have y3 := (hrb).2 3
        have b4 := (hrb).cellAt (i := 4) rfl
        have y4 := (hrb).2 4
        go_wp2
        have hst := ((((((StayD.refl (fun b => b ≠ w0.heap.size + 1) w6).set (w0.heap.size + 1) 0 (.int .i64 2) (fun _ h => by (try dsimp only at h); omega)).set (w0.heap.size + 1) 1 (.int .i64 z) (fun _ h => by (try dsimp only at h); omega)).set (w0.heap.size + 1) 2 (.string ⟨#[]⟩) (fun _ h => by (try dsimp only at h); omega)).set (w0.heap.size + 1) 3 (.string ⟨#[]⟩) (fun _ h => by (try dsimp only at h); omega)).set (w0.heap.size + 1) 4 (.slice none 0 0) (fun _ h => by (try dsimp only at h); omega))
        have hn := ((((((((((hrb).set 0 (.int .i64 2) (by simp))).set 1 (.int .i64 z) (by simp))).set 2 (.string ⟨#[]⟩) (by simp))).set 3 (.string ⟨#[]⟩) (by simp))).set 4 (.slice none 0 0) (by simp))
        have hK := ((((((((((((unhide HR5).trans hk6)).set (by have := unhide HZ2; omega) (w0.heap.size + 1) 0 (.int .i64 2) (by omega))).set (by have := unhide HZ2; omega) (w0.heap.size + 1) 1 (.int .i64 z) (by omega))).set (by have := unhide HZ2; omega) (w0.heap.size + 1) 2 (.string ⟨#[]⟩) (by omega))).set (by have := unhide HZ2; omega) (w0.heap.size + 1) 3 (.string ⟨#[]⟩) (by omega))).set (by have := unhide HZ2; omega) (w0.heap.size + 1) 4 (.slice none 0 0) (by omega))
        obtain ⟨FW, hF⟩ : ∃ FW, FW = (((((w6.setCell ⟨(w0.heap.size + 1), 0, none⟩ (.int .i64 2)).setCell ⟨(w0.heap.size + 1), 1, none⟩ (.int .i64 z)).setCell ⟨(w0.heap.size + 1), 2, none⟩ (.string ⟨#[]⟩)).setCell ⟨(w0.heap.size + 1), 3, none⟩ (.string ⟨#[]⟩)).setCell ⟨(w0.heap.size + 1), 4, none⟩ (.slice none 0 0)) := ⟨_, rfl⟩
        rw [← hF] at hst hn hK ⊢
        have g0 := hn.cellAt (i := 0) rfl
        have g1 := hn.cellAt (i := 1) rfl
        have g2 := hn.cellAt (i := 2) rfl
        have g3 := hn.cellAt (i := 3) rfl
        have g4 := hn.cellAt (i := 4) rfl
        refine bodyPost_ret (v := .agg #[.int .i64 2, .int .i64 z, .string ⟨#[]⟩, .string ⟨#[]⟩, .slice none 0 0]) (by simp [results, Tryz.results40, go_sem, g0, g1, g2, g3, g4]) rfl ?_
        exact ⟨_, .node 2 z ⟨#[]⟩ ⟨#[]⟩ [], _, rfl, keepE_leaf (Nat.zero_le _) (Nat.zero_le _), by have := unhide HW5; simp [TE.wt, wtL, emp_size], hK.more (by omega)⟩
      · have hrw := (unhide HR5)
        have hRw := hrw.alloc (by have := unhide HZ2; omega) (.cells #[.string ⟨#[120]⟩, .string ⟨#[110]⟩, .string ⟨#[113]⟩, .string ⟨#[117, 115, 101]⟩] 9)
        have HOF6 := hide (ofL_rd B w5.heap.size 4 [⟨#[120]⟩, ⟨#[110]⟩, ⟨#[113]⟩, ⟨#[117, 115, 101]⟩] a len cap (q + 1) (w5.alloc (.cells #[.string ⟨#[120]⟩, .string ⟨#[110]⟩, .string ⟨#[113]⟩, .string ⟨#[117, 115, 101]⟩] 9)) hRw.rd (by have := hRw.le; omega) (by have := hrw.size; have := unhide HZ2; omega) (by decide) (by decide) (wordsL_new w5 [⟨#[120]⟩, ⟨#[110]⟩, ⟨#[113]⟩, ⟨#[117, 115, 101]⟩] _ rfl))
        have HQ6 := hide hRw
        clear hrw hRw
        go_wp2_with fail
        refine (unhide HOF6).mono ?_
        rintro r w6 ⟨xn, hx6, rfl, hk6, -⟩
        have hr6 := (unhide HQ6).trans hk6
        have hs6 : xn.size ≤ 5 := by
          simp only [List.mem_cons, List.not_mem_nil, or_false] at hx6
          rcases hx6 with rfl | rfl | rfl | rfl <;> decide
        have hrb := ((unhide HB5).below (below_one w5 (.cells #[.string ⟨#[120]⟩, .string ⟨#[110]⟩, .string ⟨#[113]⟩, .string ⟨#[117, 115, 101]⟩] 9)) (by have := unhide HZ5; omega)).ofb (hk6.mv.2 (w0.heap.size + 1) (by rw [alloc_size]; have := unhide HZ5; omega) (by have := unhide HZ2; omega))
        have b0 := (hrb).cellAt (i := 0) rfl
        have y0 := (hrb).2 0
        have b1 := (hrb).cellAt (i := 1) rfl
        have y1 := (hrb).2 1
        have b2 := (hrb).cellAt (i := 2) rfl
        have y2 := (hrb).2 2
        have b3 := (hrb).cellAt (i := 3) rfl
        have y3 := (hrb).2 3
        have b4 := (hrb).cellAt (i := 4) rfl
        have y4 := (hrb).2 4
        go_wp2
        have hst := ((((((StayD.refl (fun b => b ≠ w0.heap.size + 1) w6).set (w0.heap.size + 1) 0 (.int .i64 3) (fun _ h => by (try dsimp only at h); omega)).set (w0.heap.size + 1) 1 (.int .i64 0) (fun _ h => by (try dsimp only at h); omega)).set (w0.heap.size + 1) 2 (.string xn) (fun _ h => by (try dsimp only at h); omega)).set (w0.heap.size + 1) 3 (.string ⟨#[]⟩) (fun _ h => by (try dsimp only at h); omega)).set (w0.heap.size + 1) 4 (.slice none 0 0) (fun _ h => by (try dsimp only at h); omega))
        have hn := ((((((((((hrb).set 0 (.int .i64 3) (by simp))).set 1 (.int .i64 0) (by simp))).set 2 (.string xn) (by simp))).set 3 (.string ⟨#[]⟩) (by simp))).set 4 (.slice none 0 0) (by simp))
        have hK := ((((((((((hr6).set (by have := unhide HZ2; omega) (w0.heap.size + 1) 0 (.int .i64 3) (by omega))).set (by have := unhide HZ2; omega) (w0.heap.size + 1) 1 (.int .i64 0) (by omega))).set (by have := unhide HZ2; omega) (w0.heap.size + 1) 2 (.string xn) (by omega))).set (by have := unhide HZ2; omega) (w0.heap.size + 1) 3 (.string ⟨#[]⟩) (by omega))).set (by have := unhide HZ2; omega) (w0.heap.size + 1) 4 (.slice none 0 0) (by omega))
        obtain ⟨FW, hF⟩ : ∃ FW, FW = (((((w6.setCell ⟨(w0.heap.size + 1), 0, none⟩ (.int .i64 3)).setCell ⟨(w0.heap.size + 1), 1, none⟩ (.int .i64 0)).setCell ⟨(w0.heap.size + 1), 2, none⟩ (.string xn)).setCell ⟨(w0.heap.size + 1), 3, none⟩ (.string ⟨#[]⟩)).setCell ⟨(w0.heap.size + 1), 4, none⟩ (.slice none 0 0)) := ⟨_, rfl⟩
        rw [← hF] at hst hn hK ⊢
        have g0 := hn.cellAt (i := 0) rfl
        have g1 := hn.cellAt (i := 1) rfl
        have g2 := hn.cellAt (i := 2) rfl
        have g3 := hn.cellAt (i := 3) rfl
        have g4 := hn.cellAt (i := 4) rfl
        refine bodyPost_ret (v := .agg #[.int .i64 3, .int .i64 0, .string xn, .string ⟨#[]⟩, .slice none 0 0]) (by simp [results, Tryz.results40, go_sem, g0, g1, g2, g3, g4]) rfl ?_
        exact ⟨_, .node 3 0 xn ⟨#[]⟩ [], _, rfl, keepE_leaf (by omega) (Nat.zero_le _), by have := unhide HW5; simp [TE.wt, wtL, emp_size]; omega, hK.more (by omega)⟩
      · have hrw := (unhide HR5)
        have hRw := hrw.alloc (by have := unhide HZ2; omega) (.cells #[.string ⟨#[102]⟩, .string ⟨#[103]⟩, .string ⟨#[110, 111, 110, 101]⟩] 9)
        have HOF6 := hide (ofL_rd B w5.heap.size 3 [⟨#[102]⟩, ⟨#[103]⟩, ⟨#[110, 111, 110, 101]⟩] a len cap (q + 1) (w5.alloc (.cells #[.string ⟨#[102]⟩, .string ⟨#[103]⟩, .string ⟨#[110, 111, 110, 101]⟩] 9)) hRw.rd (by have := hRw.le; omega) (by have := hrw.size; have := unhide HZ2; omega) (by decide) (by decide) (wordsL_new w5 [⟨#[102]⟩, ⟨#[103]⟩, ⟨#[110, 111, 110, 101]⟩] _ rfl))
        have HQ6 := hide hRw
        clear hrw hRw
        go_wp2_with fail
        refine (unhide HOF6).mono ?_
        rintro r w6 ⟨xn, hx6, rfl, hk6, -⟩
        have hr6 := (unhide HQ6).trans hk6
        have hs6 : xn.size ≤ 5 := by
          simp only [List.mem_cons, List.not_mem_nil, or_false] at hx6
          rcases hx6 with rfl | rfl | rfl <;> decide
        have hrw := hr6
        have hRw := hrw.alloc (by have := unhide HZ2; omega) (.cells #[.string ⟨#[]⟩, .string ⟨#[]⟩, .string ⟨#[108, 105, 98]⟩, .string ⟨#[110, 111, 110, 101]⟩, .string ⟨#[65]⟩] 9)
        have HOF7 := hide (ofL_rd B w6.heap.size 5 [⟨#[]⟩, ⟨#[]⟩, ⟨#[108, 105, 98]⟩, ⟨#[110, 111, 110, 101]⟩, ⟨#[65]⟩] a len cap (q + 1 + 1) (w6.alloc (.cells #[.string ⟨#[]⟩, .string ⟨#[]⟩, .string ⟨#[108, 105, 98]⟩, .string ⟨#[110, 111, 110, 101]⟩, .string ⟨#[65]⟩] 9)) hRw.rd (by have := hRw.le; omega) (by have := hrw.size; have := unhide HZ2; omega) (by decide) (by decide) (wordsL_new w6 [⟨#[]⟩, ⟨#[]⟩, ⟨#[108, 105, 98]⟩, ⟨#[110, 111, 110, 101]⟩, ⟨#[65]⟩] _ rfl))
        have HQ7 := hide hRw
        clear hrw hRw
        go_wp2_with fail
        refine (unhide HOF7).mono ?_
        rintro r w7 ⟨xm, hx7, rfl, hk7, -⟩
        have hr7 := (unhide HQ7).trans hk7
        have hs7 : xm.size ≤ 5 := by
          simp only [List.mem_cons, List.not_mem_nil, or_false] at hx7
          rcases hx7 with rfl | rfl | rfl | rfl | rfl <;> decide
        go_wp2_with fail
        refine (l22NumE_any _ _).mono ?_
        rintro r w8 ⟨rfl, hb8⟩
        have hz6 := hk6.size
        have hz7 := hk7.size
        rw [alloc_size] at hz6 hz7
        have hz8 := hb8.size
        have hzz := unhide HZ5
        have hb6 := ((unhide HB5).below (below_one w5 (.cells #[.string ⟨#[102]⟩, .string ⟨#[103]⟩, .string ⟨#[110, 111, 110, 101]⟩] 9)) (by omega)).ofb (hk6.mv.2 (w0.heap.size + 1) (by rw [alloc_size]; omega) (by have := unhide HZ2; omega))
        have hb7 := (hb6.below (below_one w6 (.cells #[.string ⟨#[]⟩, .string ⟨#[]⟩, .string ⟨#[108, 105, 98]⟩, .string ⟨#[110, 111, 110, 101]⟩, .string ⟨#[65]⟩] 9)) (by omega)).ofb (hk7.mv.2 (w0.heap.size + 1) (by rw [alloc_size]; omega) (by have := unhide HZ2; omega))
        have hrb := hb7.below hb8 (by omega)
        have hml : w0.heap.size + 1 < w8.heap.size := by omega
        have HM9 := hide (And.intro hr7 (And.intro hb8 (And.intro hrb hml)))
        clear hb6 hb7 hz6 hz7 hz8 hzz hr6 hk6 hk7 hr7 hb8
        have b0 := (hrb).cellAt (i := 0) rfl
        have y0 := (hrb).2 0
        have b1 := (hrb).cellAt (i := 1) rfl
        have y1 := (hrb).2 1
        have b2 := (hrb).cellAt (i := 2) rfl
        have y2 := (hrb).2 2
        have b3 := (hrb).cellAt (i := 3) rfl
        have y3 := (hrb).2 3
        have b4 := (hrb).cellAt (i := 4) rfl
        have y4 := (hrb).2 4
        clear hrb
        go_wp2
        have hX : KpD (fun b => w0.heap.size + 2 ≤ b) ((((((w8.setCell ⟨(w0.heap.size + 1), 0, none⟩ (.int .i64 7)).setCell ⟨(w0.heap.size + 1), 1, none⟩ (.int .i64 0)).setCell ⟨(w0.heap.size + 1), 2, none⟩ (.string xn)).setCell ⟨(w0.heap.size + 1), 3, none⟩ (.string xm)).setCell ⟨(w0.heap.size + 1), 4, none⟩ (.slice (some ⟨w8.heap.size, 0, none⟩) 1 1)).alloc (.cells #[.int .i64 1, .int .i64 1, .string ⟨#[]⟩, .string ⟨#[]⟩, .slice none 0 0] 31)) (fun W => IsKids (IsE W 0 W.heap.size 1) W 0 W.heap.size (some ⟨w8.heap.size, 0, none⟩) [.node 1 1 ⟨#[]⟩ ⟨#[]⟩ []]) := rowK (w := w8) (WS := (((((w8.setCell ⟨(w0.heap.size + 1), 0, none⟩ (.int .i64 7)).setCell ⟨(w0.heap.size + 1), 1, none⟩ (.int .i64 0)).setCell ⟨(w0.heap.size + 1), 2, none⟩ (.string xn)).setCell ⟨(w0.heap.size + 1), 3, none⟩ (.string xm)).setCell ⟨(w0.heap.size + 1), 4, none⟩ (.slice (some ⟨w8.heap.size, 0, none⟩) 1 1))) (by simp [World.setCell]) [(.node 1 1 ⟨#[]⟩ ⟨#[]⟩ [], [.int .i64 1, .int .i64 1, .string ⟨#[]⟩, .string ⟨#[]⟩, .slice none 0 0])] 31 (by have := (unhide HM9).2.2.2; show w0.heap.size + 2 ≤ w8.heap.size; omega) (by
          intro y hy
          rw [List.mem_singleton] at hy
          subst hy
          refine ⟨rfl, fun u hu => ?_⟩
          simp only [List.mem_cons, List.not_mem_nil, or_false] at hu
          rcases hu with rfl | rfl | rfl | rfl | rfl <;> rfl) (by
          intro y hy
          rw [List.mem_singleton] at hy
          subst hy
          exact (keepE_leaf (Nat.zero_le _) (Nat.zero_le _)).imp (fun W hW => EltE.of hW))
        have hn := (((((((((((((unhide HM9).2.2.1).set 0 (.int .i64 7) (by simp))).set 1 (.int .i64 0) (by simp))).set 2 (.string xn) (by simp))).set 3 (.string xm) (by simp))).set 4 (.slice (some ⟨w8.heap.size, 0, none⟩) 1 1) (by simp))).old (.cells #[.int .i64 1, .int .i64 1, .string ⟨#[]⟩, .string ⟨#[]⟩, .slice none 0 0] 31) (by simp [World.setCell]; exact (unhide HM9).2.2.2))
        have hK := ((((((((((((((unhide HM9).1.below (by have := unhide HZ2; omega) (unhide HM9).2.1)).set (by have := unhide HZ2; omega) (w0.heap.size + 1) 0 (.int .i64 7) (by omega))).set (by have := unhide HZ2; omega) (w0.heap.size + 1) 1 (.int .i64 0) (by omega))).set (by have := unhide HZ2; omega) (w0.heap.size + 1) 2 (.string xn) (by omega))).set (by have := unhide HZ2; omega) (w0.heap.size + 1) 3 (.string xm) (by omega))).set (by have := unhide HZ2; omega) (w0.heap.size + 1) 4 (.slice (some ⟨w8.heap.size, 0, none⟩) 1 1) (by omega))).alloc (by have := unhide HZ2; omega) (.cells #[.int .i64 1, .int .i64 1, .string ⟨#[]⟩, .string ⟨#[]⟩, .slice none 0 0] 31))
        obtain ⟨FW, hF⟩ : ∃ FW, FW = ((((((w8.setCell ⟨(w0.heap.size + 1), 0, none⟩ (.int .i64 7)).setCell ⟨(w0.heap.size + 1), 1, none⟩ (.int .i64 0)).setCell ⟨(w0.heap.size + 1), 2, none⟩ (.string xn)).setCell ⟨(w0.heap.size + 1), 3, none⟩ (.string xm)).setCell ⟨(w0.heap.size + 1), 4, none⟩ (.slice (some ⟨w8.heap.size, 0, none⟩) 1 1)).alloc (.cells #[.int .i64 1, .int .i64 1, .string ⟨#[]⟩, .string ⟨#[]⟩, .slice none 0 0] 31)) := ⟨_, rfl⟩
        rw [← hF] at hX hn hK ⊢
        have g0 := hn.cellAt (i := 0) rfl
        have g1 := hn.cellAt (i := 1) rfl
        have g2 := hn.cellAt (i := 2) rfl
        have g3 := hn.cellAt (i := 3) rfl
        have g4 := hn.cellAt (i := 4) rfl
        refine bodyPost_ret (v := .agg #[.int .i64 7, .int .i64 0, .string xn, .string xm, .slice (some ⟨w8.heap.size, 0, none⟩) 1 1]) (by simp [results, Tryz.results40, go_sem, g0, g1, g2, g3, g4]) rfl ?_
        exact ⟨_, .node 7 0 xn xm [.node 1 1 ⟨#[]⟩ ⟨#[]⟩ []], _, rfl, ((keepE_node (n := 1) hX rfl (by omega) (by omega) (by omega)).less (fun b _ h => .inr (by have h9 : w0.heap.size + 2 ≤ b := h; omega))).imp (fun W hW => hW.ups (by omega)), by have := unhide HW5; simp [TE.wt, wtL, emp_size]; omega, hK.more (by omega)⟩
      · have hrb := unhide HB5
        have hml : w0.heap.size + 1 < w5.heap.size := by have := unhide HZ5; omega
        have hee := unhide HE5
        have c0 := hee.cellAt (i := 0) rfl
        have c1 := hee.cellAt (i := 1) rfl
        have c2 := hee.cellAt (i := 2) rfl
        have c3 := hee.cellAt (i := 3) rfl
        have c4 := hee.cellAt (i := 4) rfl
        have b0 := (hrb).cellAt (i := 0) rfl
        have y0 := (hrb).2 0
        have b1 := (hrb).cellAt (i := 1) rfl
        have y1 := (hrb).2 1
        have b2 := (hrb).cellAt (i := 2) rfl
        have y2 := (hrb).2 2
        have b3 := (hrb).cellAt (i := 3) rfl
        have y3 := (hrb).2 3
        have b4 := (hrb).cellAt (i := 4) rfl
        have y4 := (hrb).2 4
        clear hrb hee
        go_wp2
        have hX : KpD (fun b => S b ∨ w0.heap.size + 2 ≤ b) ((((((w5.setCell ⟨(w0.heap.size + 1), 0, none⟩ (.int .i64 8)).setCell ⟨(w0.heap.size + 1), 1, none⟩ (.int .i64 0)).setCell ⟨(w0.heap.size + 1), 2, none⟩ (.string ⟨#[]⟩)).setCell ⟨(w0.heap.size + 1), 3, none⟩ (.string ⟨#[]⟩)).setCell ⟨(w0.heap.size + 1), 4, none⟩ (.slice (some ⟨w5.heap.size, 0, none⟩) 2 2)).alloc (.cells #[.int .i64 k, .int .i64 m, .string nm, .string md, .slice sa kids.length sc, .int .i64 k, .int .i64 m, .string nm, .string md, .slice sa kids.length sc] 31)) (fun W => IsKids (IsE W 0 W.heap.size (h + 1)) W 0 W.heap.size (some ⟨w5.heap.size, 0, none⟩) [.node k m nm md kids, .node k m nm md kids]) := rowK (w := w5) (WS := (((((w5.setCell ⟨(w0.heap.size + 1), 0, none⟩ (.int .i64 8)).setCell ⟨(w0.heap.size + 1), 1, none⟩ (.int .i64 0)).setCell ⟨(w0.heap.size + 1), 2, none⟩ (.string ⟨#[]⟩)).setCell ⟨(w0.heap.size + 1), 3, none⟩ (.string ⟨#[]⟩)).setCell ⟨(w0.heap.size + 1), 4, none⟩ (.slice (some ⟨w5.heap.size, 0, none⟩) 2 2))) (by simp [World.setCell]) [(.node k m nm md kids, [.int .i64 k, .int .i64 m, .string nm, .string md, .slice sa kids.length sc]), (.node k m nm md kids, [.int .i64 k, .int .i64 m, .string nm, .string md, .slice sa kids.length sc])] 31 (.inr (by have := unhide HZ5; omega)) (by
          intro y hy
          simp only [List.mem_cons, List.not_mem_nil, or_false] at hy
          rcases hy with rfl | rfl
          all_goals
            refine ⟨rfl, fun u hu => ?_⟩
            simp only [List.mem_cons, List.not_mem_nil, or_false] at hu
            rcases hu with rfl | rfl | rfl | rfl | rfl <;> rfl) (by
          intro y hy
          have hst : StayD S w0 (((((w5.setCell ⟨(w0.heap.size + 1), 0, none⟩ (.int .i64 8)).setCell ⟨(w0.heap.size + 1), 1, none⟩ (.int .i64 0)).setCell ⟨(w0.heap.size + 1), 2, none⟩ (.string ⟨#[]⟩)).setCell ⟨(w0.heap.size + 1), 3, none⟩ (.string ⟨#[]⟩)).setCell ⟨(w0.heap.size + 1), 4, none⟩ (.slice (some ⟨w5.heap.size, 0, none⟩) 2 2)) := (((((((unhide HR5).mv.stay (fun b hb => (unhide HSB b hb).1)).set (w0.heap.size + 1) 0 (.int .i64 8) (fun hl => by omega)).set (w0.heap.size + 1) 1 (.int .i64 0) (fun hl => by omega)).set (w0.heap.size + 1) 2 (.string ⟨#[]⟩) (fun hl => by omega)).set (w0.heap.size + 1) 3 (.string ⟨#[]⟩) (fun hl => by omega)).set (w0.heap.size + 1) 4 (.slice (some ⟨w5.heap.size, 0, none⟩) 2 2) (fun hl => by omega))
          have hke := ((((unhide HKE).stay hst).less (S' := fun b => S b ∨ w0.heap.size + 2 ≤ b) (fun b _ h => .inl h))).imp (fun W hW => EltE.of hW)
          simp only [List.mem_cons, List.not_mem_nil, or_false] at hy
          rcases hy with rfl | rfl
          · exact hke
          · exact hke)
        have hn := (((((((((((((unhide HB5)).set 0 (.int .i64 8) (by simp))).set 1 (.int .i64 0) (by simp))).set 2 (.string ⟨#[]⟩) (by simp))).set 3 (.string ⟨#[]⟩) (by simp))).set 4 (.slice (some ⟨w5.heap.size, 0, none⟩) 2 2) (by simp))).old (.cells #[.int .i64 k, .int .i64 m, .string nm, .string md, .slice sa kids.length sc, .int .i64 k, .int .i64 m, .string nm, .string md, .slice sa kids.length sc] 31) (by simp [World.setCell]; exact hml))
        have hK := (((((((((((((unhide HR5)).set (by have := unhide HZ2; omega) (w0.heap.size + 1) 0 (.int .i64 8) (by omega))).set (by have := unhide HZ2; omega) (w0.heap.size + 1) 1 (.int .i64 0) (by omega))).set (by have := unhide HZ2; omega) (w0.heap.size + 1) 2 (.string ⟨#[]⟩) (by omega))).set (by have := unhide HZ2; omega) (w0.heap.size + 1) 3 (.string ⟨#[]⟩) (by omega))).set (by have := unhide HZ2; omega) (w0.heap.size + 1) 4 (.slice (some ⟨w5.heap.size, 0, none⟩) 2 2) (by omega))).alloc (by have := unhide HZ2; omega) (.cells #[.int .i64 k, .int .i64 m, .string nm, .string md, .slice sa kids.length sc, .int .i64 k, .int .i64 m, .string nm, .string md, .slice sa kids.length sc] 31))
        obtain ⟨FW, hF⟩ : ∃ FW, FW = ((((((w5.setCell ⟨(w0.heap.size + 1), 0, none⟩ (.int .i64 8)).setCell ⟨(w0.heap.size + 1), 1, none⟩ (.int .i64 0)).setCell ⟨(w0.heap.size + 1), 2, none⟩ (.string ⟨#[]⟩)).setCell ⟨(w0.heap.size + 1), 3, none⟩ (.string ⟨#[]⟩)).setCell ⟨(w0.heap.size + 1), 4, none⟩ (.slice (some ⟨w5.heap.size, 0, none⟩) 2 2)).alloc (.cells #[.int .i64 k, .int .i64 m, .string nm, .string md, .slice sa kids.length sc, .int .i64 k, .int .i64 m, .string nm, .string md, .slice sa kids.length sc] 31)) := ⟨_, rfl⟩
        rw [← hF] at hX hn hK ⊢
        have g0 := hn.cellAt (i := 0) rfl
        have g1 := hn.cellAt (i := 1) rfl
        have g2 := hn.cellAt (i := 2) rfl
        have g3 := hn.cellAt (i := 3) rfl
        have g4 := hn.cellAt (i := 4) rfl
        refine bodyPost_ret (v := .agg #[.int .i64 8, .int .i64 0, .string ⟨#[]⟩, .string ⟨#[]⟩, .slice (some ⟨w5.heap.size, 0, none⟩) 2 2]) (by simp [results, Tryz.results40, go_sem, g0, g1, g2, g3, g4]) rfl ?_
        exact ⟨_, .node 8 0 ⟨#[]⟩ ⟨#[]⟩ [.node k m nm md kids, .node k m nm md kids], _, rfl, ((keepE_node (n := 2) hX rfl (by omega) (by decide) (by decide)).less (fun b _ h => h.imp id (fun h9 => by omega))).imp (fun W hW => hW.ups (by omega)), by have h1 := unhide HW5; have h2 : (⟨#[]⟩ : ByteArray).size ≤ 5 := (by decide); have h3 : (TE.node 8 0 ⟨#[]⟩ ⟨#[]⟩ [.node k m nm md kids, .node k m nm md kids]).wt = (⟨#[]⟩ : ByteArray).size + 0 + (2 + ((TE.node k m nm md kids).wt + ((TE.node k m nm md kids).wt + 0))) := rfl; omega, hK.more (by omega)⟩
      · have hz5 := unhide HZ5
        have hz2 := unhide HZ2
        have hrA : RdM B a len cap 2 w0 (w5.alloc (.cells #[.string ⟨#[112, 114, 105, 110, 116]⟩, .string ⟨#[110, 111, 116]⟩, .string ⟨#[43]⟩, .string ⟨#[108, 101, 110]⟩] 9)).drew p (q + 1) := ((unhide HR5).alloc (by omega) _).drew
        have hlA : IsListL (w5.alloc (.cells #[.string ⟨#[112, 114, 105, 110, 116]⟩, .string ⟨#[110, 111, 116]⟩, .string ⟨#[43]⟩, .string ⟨#[108, 101, 110]⟩] 9)).drew w5.heap.size [⟨#[112, 114, 105, 110, 116]⟩, ⟨#[110, 111, 116]⟩, ⟨#[43]⟩, ⟨#[108, 101, 110]⟩] := wordsL_new w5 [⟨#[112, 114, 105, 110, 116]⟩, ⟨#[110, 111, 116]⟩, ⟨#[43]⟩, ⟨#[108, 101, 110]⟩] _ rfl
        have hofA := ofL_rd B w5.heap.size 4 [⟨#[112, 114, 105, 110, 116]⟩, ⟨#[110, 111, 116]⟩, ⟨#[43]⟩, ⟨#[108, 101, 110]⟩] a len cap (q + 1) _ hrA.rd (by have := hrA.le; omega) (by omega) (by decide) (by decide) hlA
        simp only [List.length_cons, List.length_nil, Nat.reduceAdd] at hofA
        have HOFA := hide hofA
        clear hofA
        have hrB : RdM B a len cap 2 w0 ((w5.alloc (.cells #[.string ⟨#[112, 114, 105, 110, 116]⟩, .string ⟨#[110, 111, 116]⟩, .string ⟨#[43]⟩, .string ⟨#[108, 101, 110]⟩] 9)).alloc (.cells #[.int .i64 k, .int .i64 m, .string nm, .string md, .slice sa kids.length sc] 31)).drew p (q + 1) := (((unhide HR5).alloc (by omega) _).alloc (by omega) _).drew
        have hlB : IsListL ((w5.alloc (.cells #[.string ⟨#[112, 114, 105, 110, 116]⟩, .string ⟨#[110, 111, 116]⟩, .string ⟨#[43]⟩, .string ⟨#[108, 101, 110]⟩] 9)).alloc (.cells #[.int .i64 k, .int .i64 m, .string nm, .string md, .slice sa kids.length sc] 31)).drew w5.heap.size [⟨#[112, 114, 105, 110, 116]⟩, ⟨#[110, 111, 116]⟩, ⟨#[43]⟩, ⟨#[108, 101, 110]⟩] := fun j hj => ((below_one (w5.alloc (.cells #[.string ⟨#[112, 114, 105, 110, 116]⟩, .string ⟨#[110, 111, 116]⟩, .string ⟨#[43]⟩, .string ⟨#[108, 101, 110]⟩] 9)) (.cells #[.int .i64 k, .int .i64 m, .string nm, .string md, .slice sa kids.length sc] 31)).cell (p := ⟨w5.heap.size, j, none⟩) (by show w5.heap.size < ((w5.alloc (.cells #[.string ⟨#[112, 114, 105, 110, 116]⟩, .string ⟨#[110, 111, 116]⟩, .string ⟨#[43]⟩, .string ⟨#[108, 101, 110]⟩] 9))).heap.size; rw [alloc_size]; exact Nat.lt_succ_self _)).trans (hlA j hj)
        have hofB := ofL_rd B w5.heap.size 4 [⟨#[112, 114, 105, 110, 116]⟩, ⟨#[110, 111, 116]⟩, ⟨#[43]⟩, ⟨#[108, 101, 110]⟩] a len cap (q + 1) _ hrB.rd (by have := hrB.le; omega) (by omega) (by decide) (by decide) hlB
        simp only [List.length_cons, List.length_nil, Nat.reduceAdd] at hofB
        have HOFB := hide hofB
        clear hofB
        have hrC : RdM B a len cap 2 w0 ((w5.alloc (.cells #[.int .i64 k, .int .i64 m, .string nm, .string md, .slice sa kids.length sc] 31)).alloc (.cells #[.string ⟨#[112, 114, 105, 110, 116]⟩, .string ⟨#[110, 111, 116]⟩, .string ⟨#[43]⟩, .string ⟨#[108, 101, 110]⟩] 9)).drew p (q + 1) := (((unhide HR5).alloc (by omega) _).alloc (by omega) _).drew
        have hlC : IsListL ((w5.alloc (.cells #[.int .i64 k, .int .i64 m, .string nm, .string md, .slice sa kids.length sc] 31)).alloc (.cells #[.string ⟨#[112, 114, 105, 110, 116]⟩, .string ⟨#[110, 111, 116]⟩, .string ⟨#[43]⟩, .string ⟨#[108, 101, 110]⟩] 9)).drew (w5.heap.size + 1) [⟨#[112, 114, 105, 110, 116]⟩, ⟨#[110, 111, 116]⟩, ⟨#[43]⟩, ⟨#[108, 101, 110]⟩] := by
          have := wordsL_new (w5.alloc (.cells #[.int .i64 k, .int .i64 m, .string nm, .string md, .slice sa kids.length sc] 31)) [⟨#[112, 114, 105, 110, 116]⟩, ⟨#[110, 111, 116]⟩, ⟨#[43]⟩, ⟨#[108, 101, 110]⟩] _ rfl
          rw [alloc_size] at this
          exact this
        have hofC := ofL_rd B (w5.heap.size + 1) 4 [⟨#[112, 114, 105, 110, 116]⟩, ⟨#[110, 111, 116]⟩, ⟨#[43]⟩, ⟨#[108, 101, 110]⟩] a len cap (q + 1) _ hrC.rd (by have := hrC.le; omega) (by omega) (by decide) (by decide) hlC
        simp only [List.length_cons, List.length_nil, Nat.reduceAdd] at hofC
        have HOFC := hide hofC
        clear hofC
        have HWZA := hide (show ((w5.alloc (.cells #[.string ⟨#[112, 114, 105, 110, 116]⟩, .string ⟨#[110, 111, 116]⟩, .string ⟨#[43]⟩, .string ⟨#[108, 101, 110]⟩] 9)).drew).heap.size = w5.heap.size + 1 from alloc_size _ _)
        have HWZB := hide (show (((w5.alloc (.cells #[.string ⟨#[112, 114, 105, 110, 116]⟩, .string ⟨#[110, 111, 116]⟩, .string ⟨#[43]⟩, .string ⟨#[108, 101, 110]⟩] 9)).alloc (.cells #[.int .i64 k, .int .i64 m, .string nm, .string md, .slice sa kids.length sc] 31)).drew).heap.size = w5.heap.size + 2 from (alloc_size _ _).trans (congrArg (· + 1) (alloc_size _ _)))
        have HWZC := hide (show (((w5.alloc (.cells #[.int .i64 k, .int .i64 m, .string nm, .string md, .slice sa kids.length sc] 31)).alloc (.cells #[.string ⟨#[112, 114, 105, 110, 116]⟩, .string ⟨#[110, 111, 116]⟩, .string ⟨#[43]⟩, .string ⟨#[108, 101, 110]⟩] 9)).drew).heap.size = w5.heap.size + 2 from (alloc_size _ _).trans (congrArg (· + 1) (alloc_size _ _)))
        have HRA := hide hrA
        have HRB' := hide hrB
        have HRC := hide hrC
        have HCC := hide (fun (W w6 : World) (q6 : Nat) (hk : RdM B a len cap 1 W w6 (q + 1) q6) (hW : Below w5.heap.size w5 W) => show Blk w6 w0.heap.size [.int .i64 k, .int .i64 m, .string nm, .string md, .slice sa kids.length sc] ∧ Blk w6 (w0.heap.size + 1) [.int .i64 0, .int .i64 0, .string ⟨#[]⟩, .string ⟨#[]⟩, .slice none 0 0] from ⟨((unhide HE5).below hW (by omega)).ofb (hk.mv.2 w0.heap.size (by have := hW.size; omega) (by omega)), ((unhide HB5).below hW (by omega)).ofb (hk.mv.2 (w0.heap.size + 1) (by have := hW.size; omega) (by omega))⟩)
        have u0 := (unhide HE5).cellAt (i := 0) rfl
        have u1 := (unhide HE5).cellAt (i := 1) rfl
        have u2 := (unhide HE5).cellAt (i := 2) rfl
        have u3 := (unhide HE5).cellAt (i := 3) rfl
        have u4 := (unhide HE5).cellAt (i := 4) rfl
        have hlt : w0.heap.size < w5.heap.size := by omega
        clear hz2 hrA hlA hrB hlB hrC hlC hz5
        go_wp2
        go_region_with (first
          | (go_at_call 38; (with_reducible refine (unhide HOFA).mono ?_); go_must (rintro r w6 ⟨xn, hx6, rfl, hk6, -⟩; have hx9 := unhide HCC _ w6 _ hk6 (((Below.refl _ w5).alloc (Nat.le_refl _) _).drew); have c0 := hx9.1.cellAt (i := 0) rfl; have b0 := hx9.2.cellAt (i := 0) rfl; have y0 := hx9.2.2 0; have c1 := hx9.1.cellAt (i := 1) rfl; have b1 := hx9.2.cellAt (i := 1) rfl; have y1 := hx9.2.2 1; have c2 := hx9.1.cellAt (i := 2) rfl; have b2 := hx9.2.cellAt (i := 2) rfl; have y2 := hx9.2.2 2; have c3 := hx9.1.cellAt (i := 3) rfl; have b3 := hx9.2.cellAt (i := 3) rfl; have y3 := hx9.2.2 3; have c4 := hx9.1.cellAt (i := 4) rfl; have b4 := hx9.2.cellAt (i := 4) rfl; have y4 := hx9.2.2 4; have HRB6 := hide hx9.2; have HX6 := hide hx6; have HR6 := hide ((unhide HRA).trans hk6); have HK6 : Hid (True) := hide (by trivial); have hsz6 : w0.heap.size + 1 < w6.heap.size := (by have h6 := hk6.size; have h5 := unhide HWZA; have := unhide HZ5; omega); clear hx9 hx6 hk6))
          | (go_at_call 38; (with_reducible refine (unhide HOFB).mono ?_); go_must (rintro r w6 ⟨xn, hx6, rfl, hk6, -⟩; have hx9 := unhide HCC _ w6 _ hk6 ((((Below.refl _ w5).alloc (Nat.le_refl _) _).alloc (by rw [alloc_size]; exact Nat.le_succ _) _).drew); have c0 := hx9.1.cellAt (i := 0) rfl; have b0 := hx9.2.cellAt (i := 0) rfl; have y0 := hx9.2.2 0; have c1 := hx9.1.cellAt (i := 1) rfl; have b1 := hx9.2.cellAt (i := 1) rfl; have y1 := hx9.2.2 1; have c2 := hx9.1.cellAt (i := 2) rfl; have b2 := hx9.2.cellAt (i := 2) rfl; have y2 := hx9.2.2 2; have c3 := hx9.1.cellAt (i := 3) rfl; have b3 := hx9.2.cellAt (i := 3) rfl; have y3 := hx9.2.2 3; have c4 := hx9.1.cellAt (i := 4) rfl; have b4 := hx9.2.cellAt (i := 4) rfl; have y4 := hx9.2.2 4; have HRB6 := hide hx9.2; have HX6 := hide hx6; have HR6 := hide ((unhide HRB').trans hk6); have HK6 : Hid (Blk w6 (w5.heap.size + 1) [.int .i64 k, .int .i64 m, .string nm, .string md, .slice sa kids.length sc] ∧ w5.heap.size + 1 < w6.heap.size) := hide ((by have hb0 : Blk ((w5.alloc (.cells #[.string ⟨#[112, 114, 105, 110, 116]⟩, .string ⟨#[110, 111, 116]⟩, .string ⟨#[43]⟩, .string ⟨#[108, 101, 110]⟩] 9)).alloc (.cells #[.int .i64 k, .int .i64 m, .string nm, .string md, .slice sa kids.length sc] 31)).drew (w5.heap.size + 1) [.int .i64 k, .int .i64 m, .string nm, .string md, .slice sa kids.length sc] := (by have := Blk.new (w5.alloc (.cells #[.string ⟨#[112, 114, 105, 110, 116]⟩, .string ⟨#[110, 111, 116]⟩, .string ⟨#[43]⟩, .string ⟨#[108, 101, 110]⟩] 9)) [.int .i64 k, .int .i64 m, .string nm, .string md, .slice sa kids.length sc] 31; rw [alloc_size] at this; exact this); have h3 := unhide HWZB; have h4 := hk6.size; exact ⟨hb0.ofb (hk6.mv.2 (w5.heap.size + 1) (by omega) (by have := unhide HZ5; have := unhide HZ2; omega)), by omega⟩)); have hsz6 : w0.heap.size + 1 < w6.heap.size := (by have h6 := hk6.size; have h5 := unhide HWZB; have := unhide HZ5; omega); clear hx9 hx6 hk6))
          | (go_at_call 38; (with_reducible refine (unhide HOFC).mono ?_); go_must (rintro r w6 ⟨xn, hx6, rfl, hk6, -⟩; have hx9 := unhide HCC _ w6 _ hk6 ((((Below.refl _ w5).alloc (Nat.le_refl _) _).alloc (by rw [alloc_size]; exact Nat.le_succ _) _).drew); have c0 := hx9.1.cellAt (i := 0) rfl; have b0 := hx9.2.cellAt (i := 0) rfl; have y0 := hx9.2.2 0; have c1 := hx9.1.cellAt (i := 1) rfl; have b1 := hx9.2.cellAt (i := 1) rfl; have y1 := hx9.2.2 1; have c2 := hx9.1.cellAt (i := 2) rfl; have b2 := hx9.2.cellAt (i := 2) rfl; have y2 := hx9.2.2 2; have c3 := hx9.1.cellAt (i := 3) rfl; have b3 := hx9.2.cellAt (i := 3) rfl; have y3 := hx9.2.2 3; have c4 := hx9.1.cellAt (i := 4) rfl; have b4 := hx9.2.cellAt (i := 4) rfl; have y4 := hx9.2.2 4; have HRB6 := hide hx9.2; have HX6 := hide hx6; have HR6 := hide ((unhide HRC).trans hk6); have HK6 : Hid (Blk w6 w5.heap.size [.int .i64 k, .int .i64 m, .string nm, .string md, .slice sa kids.length sc] ∧ w5.heap.size < w6.heap.size) := hide ((by have hb0 : Blk ((w5.alloc (.cells #[.int .i64 k, .int .i64 m, .string nm, .string md, .slice sa kids.length sc] 31)).alloc (.cells #[.string ⟨#[112, 114, 105, 110, 116]⟩, .string ⟨#[110, 111, 116]⟩, .string ⟨#[43]⟩, .string ⟨#[108, 101, 110]⟩] 9)).drew w5.heap.size [.int .i64 k, .int .i64 m, .string nm, .string md, .slice sa kids.length sc] := (Blk.new w5 [.int .i64 k, .int .i64 m, .string nm, .string md, .slice sa kids.length sc] 31).old (.cells #[.string ⟨#[112, 114, 105, 110, 116]⟩, .string ⟨#[110, 111, 116]⟩, .string ⟨#[43]⟩, .string ⟨#[108, 101, 110]⟩] 9) (by rw [alloc_size]; exact Nat.lt_succ_self _); have h3 := unhide HWZC; have h4 := hk6.size; exact ⟨hb0.ofb (hk6.mv.2 w5.heap.size (by omega) (by have := unhide HZ5; have := unhide HZ2; omega)), by omega⟩)); have hsz6 : w0.heap.size + 1 < w6.heap.size := (by have h6 := hk6.size; have h5 := unhide HWZC; have := unhide HZ5; omega); clear hx9 hx6 hk6)))
        all_goals
          have hs6 : xn.size ≤ 5 := by
            have hx := unhide HX6
            simp only [List.mem_cons, List.not_mem_nil, or_false] at hx
            rcases hx with rfl | rfl | rfl | rfl <;> decide
          clear u0 u1 u2 u3 u4
          go_wp2
        · have hX : KpD (fun b => S b ∨ w0.heap.size + 2 ≤ b) ((((((w6.setCell ⟨(w0.heap.size + 1), 0, none⟩ (.int .i64 4)).setCell ⟨(w0.heap.size + 1), 1, none⟩ (.int .i64 0)).setCell ⟨(w0.heap.size + 1), 2, none⟩ (.string xn)).setCell ⟨(w0.heap.size + 1), 3, none⟩ (.string ⟨#[]⟩)).setCell ⟨(w0.heap.size + 1), 4, none⟩ (.slice (some ⟨w6.heap.size, 0, none⟩) 1 1)).alloc (.cells #[.int .i64 k, .int .i64 m, .string nm, .string md, .slice sa kids.length sc] 31)) (fun W => IsKids (IsE W 0 W.heap.size (h + 1)) W 0 W.heap.size (some ⟨w6.heap.size, 0, none⟩) [.node k m nm md kids]) := rowK (w := w6) (WS := (((((w6.setCell ⟨(w0.heap.size + 1), 0, none⟩ (.int .i64 4)).setCell ⟨(w0.heap.size + 1), 1, none⟩ (.int .i64 0)).setCell ⟨(w0.heap.size + 1), 2, none⟩ (.string xn)).setCell ⟨(w0.heap.size + 1), 3, none⟩ (.string ⟨#[]⟩)).setCell ⟨(w0.heap.size + 1), 4, none⟩ (.slice (some ⟨w6.heap.size, 0, none⟩) 1 1))) (by simp [World.setCell]) [(.node k m nm md kids, [.int .i64 k, .int .i64 m, .string nm, .string md, .slice sa kids.length sc])] 31 (.inr (by omega)) (by
            intro y hy
            rw [List.mem_singleton] at hy
            subst hy
            refine ⟨rfl, fun u hu => ?_⟩
            simp only [List.mem_cons, List.not_mem_nil, or_false] at hu
            rcases hu with rfl | rfl | rfl | rfl | rfl <;> rfl) (by
            intro y hy
            have hst : StayD S w0 (((((w6.setCell ⟨(w0.heap.size + 1), 0, none⟩ (.int .i64 4)).setCell ⟨(w0.heap.size + 1), 1, none⟩ (.int .i64 0)).setCell ⟨(w0.heap.size + 1), 2, none⟩ (.string xn)).setCell ⟨(w0.heap.size + 1), 3, none⟩ (.string ⟨#[]⟩)).setCell ⟨(w0.heap.size + 1), 4, none⟩ (.slice (some ⟨w6.heap.size, 0, none⟩) 1 1)) := (((((((unhide HR6).mv.stay (fun b hb => (unhide HSB b hb).1)).set (w0.heap.size + 1) 0 (.int .i64 4) (fun hl => by omega)).set (w0.heap.size + 1) 1 (.int .i64 0) (fun hl => by omega)).set (w0.heap.size + 1) 2 (.string xn) (fun hl => by omega)).set (w0.heap.size + 1) 3 (.string ⟨#[]⟩) (fun hl => by omega)).set (w0.heap.size + 1) 4 (.slice (some ⟨w6.heap.size, 0, none⟩) 1 1) (fun hl => by omega))
            have hke := ((((unhide HKE).stay hst).less (S' := fun b => S b ∨ w0.heap.size + 2 ≤ b) (fun b _ h => .inl h))).imp (fun W hW => EltE.of hW)
            rw [List.mem_singleton] at hy
            subst hy
            exact hke)
          have hn := (((((((((((((unhide HRB6)).set 0 (.int .i64 4) (by simp))).set 1 (.int .i64 0) (by simp))).set 2 (.string xn) (by simp))).set 3 (.string ⟨#[]⟩) (by simp))).set 4 (.slice (some ⟨w6.heap.size, 0, none⟩) 1 1) (by simp))).old (.cells #[.int .i64 k, .int .i64 m, .string nm, .string md, .slice sa kids.length sc] 31) (by simp [World.setCell]; exact hsz6))
          have hK := (((((((((((((unhide HR6)).set (by have := unhide HZ2; omega) (w0.heap.size + 1) 0 (.int .i64 4) (by omega))).set (by have := unhide HZ2; omega) (w0.heap.size + 1) 1 (.int .i64 0) (by omega))).set (by have := unhide HZ2; omega) (w0.heap.size + 1) 2 (.string xn) (by omega))).set (by have := unhide HZ2; omega) (w0.heap.size + 1) 3 (.string ⟨#[]⟩) (by omega))).set (by have := unhide HZ2; omega) (w0.heap.size + 1) 4 (.slice (some ⟨w6.heap.size, 0, none⟩) 1 1) (by omega))).alloc (by have := unhide HZ2; omega) (.cells #[.int .i64 k, .int .i64 m, .string nm, .string md, .slice sa kids.length sc] 31))
          obtain ⟨FW, hF⟩ : ∃ FW, FW = ((((((w6.setCell ⟨(w0.heap.size + 1), 0, none⟩ (.int .i64 4)).setCell ⟨(w0.heap.size + 1), 1, none⟩ (.int .i64 0)).setCell ⟨(w0.heap.size + 1), 2, none⟩ (.string xn)).setCell ⟨(w0.heap.size + 1), 3, none⟩ (.string ⟨#[]⟩)).setCell ⟨(w0.heap.size + 1), 4, none⟩ (.slice (some ⟨w6.heap.size, 0, none⟩) 1 1)).alloc (.cells #[.int .i64 k, .int .i64 m, .string nm, .string md, .slice sa kids.length sc] 31)) := ⟨_, rfl⟩
          rw [← hF] at hX hn hK ⊢
          have g0 := hn.cellAt (i := 0) rfl
          have g1 := hn.cellAt (i := 1) rfl
          have g2 := hn.cellAt (i := 2) rfl
          have g3 := hn.cellAt (i := 3) rfl
          have g4 := hn.cellAt (i := 4) rfl
          refine bodyPost_ret (v := .agg #[.int .i64 4, .int .i64 0, .string xn, .string ⟨#[]⟩, .slice (some ⟨w6.heap.size, 0, none⟩) 1 1]) (by simp [results, Tryz.results40, go_sem, g0, g1, g2, g3, g4]) rfl ?_
          exact ⟨_, .node 4 0 xn ⟨#[]⟩ [.node k m nm md kids], _, rfl, ((keepE_nodeW (n := 1) hX rfl (by omega) (by omega) (by decide)).less (fun b _ hb => hb.imp id (fun h9 => by omega))).imp (fun W hW => hW.ups (by omega)), by have h1 := unhide HW5; have h2 : (TE.node 4 0 xn ⟨#[]⟩ [.node k m nm md kids]).wt = xn.size + 0 + (1 + ((TE.node k m nm md kids).wt + 0)) := rfl; omega, hK.more (by omega)⟩
        · have hX : KpD (fun b => S b ∨ w0.heap.size + 2 ≤ b) ((((((w6.setCell ⟨(w0.heap.size + 1), 0, none⟩ (.int .i64 4)).setCell ⟨(w0.heap.size + 1), 1, none⟩ (.int .i64 0)).setCell ⟨(w0.heap.size + 1), 2, none⟩ (.string xn)).setCell ⟨(w0.heap.size + 1), 3, none⟩ (.string ⟨#[]⟩)).setCell ⟨(w0.heap.size + 1), 4, none⟩ (.slice (some ⟨w6.heap.size, 0, none⟩) 1 1)).alloc (.cells #[.int .i64 k, .int .i64 m, .string nm, .string md, .slice sa kids.length sc] 31)) (fun W => IsKids (IsE W 0 W.heap.size (h + 1)) W 0 W.heap.size (some ⟨w6.heap.size, 0, none⟩) [.node k m nm md kids]) := rowK (w := w6) (WS := (((((w6.setCell ⟨(w0.heap.size + 1), 0, none⟩ (.int .i64 4)).setCell ⟨(w0.heap.size + 1), 1, none⟩ (.int .i64 0)).setCell ⟨(w0.heap.size + 1), 2, none⟩ (.string xn)).setCell ⟨(w0.heap.size + 1), 3, none⟩ (.string ⟨#[]⟩)).setCell ⟨(w0.heap.size + 1), 4, none⟩ (.slice (some ⟨w6.heap.size, 0, none⟩) 1 1))) (by simp [World.setCell]) [(.node k m nm md kids, [.int .i64 k, .int .i64 m, .string nm, .string md, .slice sa kids.length sc])] 31 (.inr (by omega)) (by
            intro y hy
            rw [List.mem_singleton] at hy
            subst hy
            refine ⟨rfl, fun u hu => ?_⟩
            simp only [List.mem_cons, List.not_mem_nil, or_false] at hu
            rcases hu with rfl | rfl | rfl | rfl | rfl <;> rfl) (by
            intro y hy
            have hst : StayD S w0 (((((w6.setCell ⟨(w0.heap.size + 1), 0, none⟩ (.int .i64 4)).setCell ⟨(w0.heap.size + 1), 1, none⟩ (.int .i64 0)).setCell ⟨(w0.heap.size + 1), 2, none⟩ (.string xn)).setCell ⟨(w0.heap.size + 1), 3, none⟩ (.string ⟨#[]⟩)).setCell ⟨(w0.heap.size + 1), 4, none⟩ (.slice (some ⟨w6.heap.size, 0, none⟩) 1 1)) := (((((((unhide HR6).mv.stay (fun b hb => (unhide HSB b hb).1)).set (w0.heap.size + 1) 0 (.int .i64 4) (fun hl => by omega)).set (w0.heap.size + 1) 1 (.int .i64 0) (fun hl => by omega)).set (w0.heap.size + 1) 2 (.string xn) (fun hl => by omega)).set (w0.heap.size + 1) 3 (.string ⟨#[]⟩) (fun hl => by omega)).set (w0.heap.size + 1) 4 (.slice (some ⟨w6.heap.size, 0, none⟩) 1 1) (fun hl => by omega))
            have hke := ((((unhide HKE).stay hst).less (S' := fun b => S b ∨ w0.heap.size + 2 ≤ b) (fun b _ h => .inl h))).imp (fun W hW => EltE.of hW)
            rw [List.mem_singleton] at hy
            subst hy
            exact hke)
          have hn := (((((((((((((unhide HRB6)).set 0 (.int .i64 4) (by simp))).set 1 (.int .i64 0) (by simp))).set 2 (.string xn) (by simp))).set 3 (.string ⟨#[]⟩) (by simp))).set 4 (.slice (some ⟨w6.heap.size, 0, none⟩) 1 1) (by simp))).old (.cells #[.int .i64 k, .int .i64 m, .string nm, .string md, .slice sa kids.length sc] 31) (by simp [World.setCell]; exact hsz6))
          have hK := (((((((((((((unhide HR6)).set (by have := unhide HZ2; omega) (w0.heap.size + 1) 0 (.int .i64 4) (by omega))).set (by have := unhide HZ2; omega) (w0.heap.size + 1) 1 (.int .i64 0) (by omega))).set (by have := unhide HZ2; omega) (w0.heap.size + 1) 2 (.string xn) (by omega))).set (by have := unhide HZ2; omega) (w0.heap.size + 1) 3 (.string ⟨#[]⟩) (by omega))).set (by have := unhide HZ2; omega) (w0.heap.size + 1) 4 (.slice (some ⟨w6.heap.size, 0, none⟩) 1 1) (by omega))).alloc (by have := unhide HZ2; omega) (.cells #[.int .i64 k, .int .i64 m, .string nm, .string md, .slice sa kids.length sc] 31))
          obtain ⟨FW, hF⟩ : ∃ FW, FW = ((((((w6.setCell ⟨(w0.heap.size + 1), 0, none⟩ (.int .i64 4)).setCell ⟨(w0.heap.size + 1), 1, none⟩ (.int .i64 0)).setCell ⟨(w0.heap.size + 1), 2, none⟩ (.string xn)).setCell ⟨(w0.heap.size + 1), 3, none⟩ (.string ⟨#[]⟩)).setCell ⟨(w0.heap.size + 1), 4, none⟩ (.slice (some ⟨w6.heap.size, 0, none⟩) 1 1)).alloc (.cells #[.int .i64 k, .int .i64 m, .string nm, .string md, .slice sa kids.length sc] 31)) := ⟨_, rfl⟩
          rw [← hF] at hX hn hK ⊢
          have g0 := hn.cellAt (i := 0) rfl
          have g1 := hn.cellAt (i := 1) rfl
          have g2 := hn.cellAt (i := 2) rfl
          have g3 := hn.cellAt (i := 3) rfl
          have g4 := hn.cellAt (i := 4) rfl
          refine bodyPost_ret (v := .agg #[.int .i64 4, .int .i64 0, .string xn, .string ⟨#[]⟩, .slice (some ⟨w6.heap.size, 0, none⟩) 1 1]) (by simp [results, Tryz.results40, go_sem, g0, g1, g2, g3, g4]) rfl ?_
          exact ⟨_, .node 4 0 xn ⟨#[]⟩ [.node k m nm md kids], _, rfl, ((keepE_nodeW (n := 1) hX rfl (by omega) (by omega) (by decide)).less (fun b _ hb => hb.imp id (fun h9 => by omega))).imp (fun W hW => hW.ups (by omega)), by have h1 := unhide HW5; have h2 : (TE.node 4 0 xn ⟨#[]⟩ [.node k m nm md kids]).wt = xn.size + 0 + (1 + ((TE.node k m nm md kids).wt + 0)) := rfl; omega, hK.more (by omega)⟩
        · have hX : KpD (fun b => S b ∨ w0.heap.size + 2 ≤ b) (((((w6.setCell ⟨(w0.heap.size + 1), 0, none⟩ (.int .i64 4)).setCell ⟨(w0.heap.size + 1), 1, none⟩ (.int .i64 0)).setCell ⟨(w0.heap.size + 1), 2, none⟩ (.string xn)).setCell ⟨(w0.heap.size + 1), 3, none⟩ (.string ⟨#[]⟩)).setCell ⟨(w0.heap.size + 1), 4, none⟩ (.slice (some ⟨w5.heap.size + 1, 0, none⟩) 1 1)) (fun W => IsKids (IsE W 0 W.heap.size (h + 1)) W 0 W.heap.size (some ⟨w5.heap.size + 1, 0, none⟩) [.node k m nm md kids]) := kidRow ((((((unhide HK6).1.other (w0.heap.size + 1) 0 (.int .i64 4) (by have := unhide HZ5; omega)).other (w0.heap.size + 1) 1 (.int .i64 0) (by have := unhide HZ5; omega)).other (w0.heap.size + 1) 2 (.string xn) (by have := unhide HZ5; omega)).other (w0.heap.size + 1) 3 (.string ⟨#[]⟩) (by have := unhide HZ5; omega)).other (w0.heap.size + 1) 4 (.slice (some ⟨w5.heap.size + 1, 0, none⟩) 1 1) (by have := unhide HZ5; omega)) (by have := (unhide HK6).2; simpa [World.setCell] using this) (.inr (by have := unhide HZ5; omega)) (((unhide HKE).stay (((((((unhide HR6).mv.stay (fun b hb => (unhide HSB b hb).1)).set (w0.heap.size + 1) 0 (.int .i64 4) (fun hl => by omega)).set (w0.heap.size + 1) 1 (.int .i64 0) (fun hl => by omega)).set (w0.heap.size + 1) 2 (.string xn) (fun hl => by omega)).set (w0.heap.size + 1) 3 (.string ⟨#[]⟩) (fun hl => by omega)).set (w0.heap.size + 1) 4 (.slice (some ⟨w5.heap.size + 1, 0, none⟩) 1 1) (fun hl => by omega))).less (S' := fun b => S b ∨ w0.heap.size + 2 ≤ b) (fun b _ hb => .inl hb))
          have hn := (((((((((((unhide HRB6)).set 0 (.int .i64 4) (by simp))).set 1 (.int .i64 0) (by simp))).set 2 (.string xn) (by simp))).set 3 (.string ⟨#[]⟩) (by simp))).set 4 (.slice (some ⟨w5.heap.size + 1, 0, none⟩) 1 1) (by simp))
          have hK := (((((((((((unhide HR6)).set (by have := unhide HZ2; omega) (w0.heap.size + 1) 0 (.int .i64 4) (by omega))).set (by have := unhide HZ2; omega) (w0.heap.size + 1) 1 (.int .i64 0) (by omega))).set (by have := unhide HZ2; omega) (w0.heap.size + 1) 2 (.string xn) (by omega))).set (by have := unhide HZ2; omega) (w0.heap.size + 1) 3 (.string ⟨#[]⟩) (by omega))).set (by have := unhide HZ2; omega) (w0.heap.size + 1) 4 (.slice (some ⟨w5.heap.size + 1, 0, none⟩) 1 1) (by omega))
          obtain ⟨FW, hF⟩ : ∃ FW, FW = (((((w6.setCell ⟨(w0.heap.size + 1), 0, none⟩ (.int .i64 4)).setCell ⟨(w0.heap.size + 1), 1, none⟩ (.int .i64 0)).setCell ⟨(w0.heap.size + 1), 2, none⟩ (.string xn)).setCell ⟨(w0.heap.size + 1), 3, none⟩ (.string ⟨#[]⟩)).setCell ⟨(w0.heap.size + 1), 4, none⟩ (.slice (some ⟨w5.heap.size + 1, 0, none⟩) 1 1)) := ⟨_, rfl⟩
          rw [← hF] at hX hn hK ⊢
          have g0 := hn.cellAt (i := 0) rfl
          have g1 := hn.cellAt (i := 1) rfl
          have g2 := hn.cellAt (i := 2) rfl
          have g3 := hn.cellAt (i := 3) rfl
          have g4 := hn.cellAt (i := 4) rfl
          refine bodyPost_ret (v := .agg #[.int .i64 4, .int .i64 0, .string xn, .string ⟨#[]⟩, .slice (some ⟨w5.heap.size + 1, 0, none⟩) 1 1]) (by simp [results, Tryz.results40, go_sem, g0, g1, g2, g3, g4]) rfl ?_
          exact ⟨_, .node 4 0 xn ⟨#[]⟩ [.node k m nm md kids], _, rfl, ((keepE_nodeW (n := 1) hX rfl (by omega) (by omega) (by decide)).less (fun b _ hb => hb.imp id (fun h9 => by omega))).imp (fun W hW => hW.ups (by omega)), by have h1 := unhide HW5; have h2 : (TE.node 4 0 xn ⟨#[]⟩ [.node k m nm md kids]).wt = xn.size + 0 + (1 + ((TE.node k m nm md kids).wt + 0)) := rfl; omega, hK.more (by omega)⟩
        · have hX : KpD (fun b => S b ∨ w0.heap.size + 2 ≤ b) ((((((w6.setCell ⟨(w0.heap.size + 1), 0, none⟩ (.int .i64 4)).setCell ⟨(w0.heap.size + 1), 1, none⟩ (.int .i64 0)).setCell ⟨(w0.heap.size + 1), 2, none⟩ (.string xn)).setCell ⟨(w0.heap.size + 1), 3, none⟩ (.string ⟨#[]⟩)).setCell ⟨(w0.heap.size + 1), 4, none⟩ (.slice (some ⟨w6.heap.size, 0, none⟩) 1 1)).alloc (.cells #[.int .i64 k, .int .i64 m, .string nm, .string md, .slice sa kids.length sc] 31)) (fun W => IsKids (IsE W 0 W.heap.size (h + 1)) W 0 W.heap.size (some ⟨w6.heap.size, 0, none⟩) [.node k m nm md kids]) := rowK (w := w6) (WS := (((((w6.setCell ⟨(w0.heap.size + 1), 0, none⟩ (.int .i64 4)).setCell ⟨(w0.heap.size + 1), 1, none⟩ (.int .i64 0)).setCell ⟨(w0.heap.size + 1), 2, none⟩ (.string xn)).setCell ⟨(w0.heap.size + 1), 3, none⟩ (.string ⟨#[]⟩)).setCell ⟨(w0.heap.size + 1), 4, none⟩ (.slice (some ⟨w6.heap.size, 0, none⟩) 1 1))) (by simp [World.setCell]) [(.node k m nm md kids, [.int .i64 k, .int .i64 m, .string nm, .string md, .slice sa kids.length sc])] 31 (.inr (by omega)) (by
            intro y hy
            rw [List.mem_singleton] at hy
            subst hy
            refine ⟨rfl, fun u hu => ?_⟩
            simp only [List.mem_cons, List.not_mem_nil, or_false] at hu
            rcases hu with rfl | rfl | rfl | rfl | rfl <;> rfl) (by
            intro y hy
            have hst : StayD S w0 (((((w6.setCell ⟨(w0.heap.size + 1), 0, none⟩ (.int .i64 4)).setCell ⟨(w0.heap.size + 1), 1, none⟩ (.int .i64 0)).setCell ⟨(w0.heap.size + 1), 2, none⟩ (.string xn)).setCell ⟨(w0.heap.size + 1), 3, none⟩ (.string ⟨#[]⟩)).setCell ⟨(w0.heap.size + 1), 4, none⟩ (.slice (some ⟨w6.heap.size, 0, none⟩) 1 1)) := (((((((unhide HR6).mv.stay (fun b hb => (unhide HSB b hb).1)).set (w0.heap.size + 1) 0 (.int .i64 4) (fun hl => by omega)).set (w0.heap.size + 1) 1 (.int .i64 0) (fun hl => by omega)).set (w0.heap.size + 1) 2 (.string xn) (fun hl => by omega)).set (w0.heap.size + 1) 3 (.string ⟨#[]⟩) (fun hl => by omega)).set (w0.heap.size + 1) 4 (.slice (some ⟨w6.heap.size, 0, none⟩) 1 1) (fun hl => by omega))
            have hke := ((((unhide HKE).stay hst).less (S' := fun b => S b ∨ w0.heap.size + 2 ≤ b) (fun b _ h => .inl h))).imp (fun W hW => EltE.of hW)
            rw [List.mem_singleton] at hy
            subst hy
            exact hke)
          have hn := (((((((((((((unhide HRB6)).set 0 (.int .i64 4) (by simp))).set 1 (.int .i64 0) (by simp))).set 2 (.string xn) (by simp))).set 3 (.string ⟨#[]⟩) (by simp))).set 4 (.slice (some ⟨w6.heap.size, 0, none⟩) 1 1) (by simp))).old (.cells #[.int .i64 k, .int .i64 m, .string nm, .string md, .slice sa kids.length sc] 31) (by simp [World.setCell]; exact hsz6))
          have hK := (((((((((((((unhide HR6)).set (by have := unhide HZ2; omega) (w0.heap.size + 1) 0 (.int .i64 4) (by omega))).set (by have := unhide HZ2; omega) (w0.heap.size + 1) 1 (.int .i64 0) (by omega))).set (by have := unhide HZ2; omega) (w0.heap.size + 1) 2 (.string xn) (by omega))).set (by have := unhide HZ2; omega) (w0.heap.size + 1) 3 (.string ⟨#[]⟩) (by omega))).set (by have := unhide HZ2; omega) (w0.heap.size + 1) 4 (.slice (some ⟨w6.heap.size, 0, none⟩) 1 1) (by omega))).alloc (by have := unhide HZ2; omega) (.cells #[.int .i64 k, .int .i64 m, .string nm, .string md, .slice sa kids.length sc] 31))
          obtain ⟨FW, hF⟩ : ∃ FW, FW = ((((((w6.setCell ⟨(w0.heap.size + 1), 0, none⟩ (.int .i64 4)).setCell ⟨(w0.heap.size + 1), 1, none⟩ (.int .i64 0)).setCell ⟨(w0.heap.size + 1), 2, none⟩ (.string xn)).setCell ⟨(w0.heap.size + 1), 3, none⟩ (.string ⟨#[]⟩)).setCell ⟨(w0.heap.size + 1), 4, none⟩ (.slice (some ⟨w6.heap.size, 0, none⟩) 1 1)).alloc (.cells #[.int .i64 k, .int .i64 m, .string nm, .string md, .slice sa kids.length sc] 31)) := ⟨_, rfl⟩
          rw [← hF] at hX hn hK ⊢
          have g0 := hn.cellAt (i := 0) rfl
          have g1 := hn.cellAt (i := 1) rfl
          have g2 := hn.cellAt (i := 2) rfl
          have g3 := hn.cellAt (i := 3) rfl
          have g4 := hn.cellAt (i := 4) rfl
          refine bodyPost_ret (v := .agg #[.int .i64 4, .int .i64 0, .string xn, .string ⟨#[]⟩, .slice (some ⟨w6.heap.size, 0, none⟩) 1 1]) (by simp [results, Tryz.results40, go_sem, g0, g1, g2, g3, g4]) rfl ?_
          exact ⟨_, .node 4 0 xn ⟨#[]⟩ [.node k m nm md kids], _, rfl, ((keepE_nodeW (n := 1) hX rfl (by omega) (by omega) (by decide)).less (fun b _ hb => hb.imp id (fun h9 => by omega))).imp (fun W hW => hW.ups (by omega)), by have h1 := unhide HW5; have h2 : (TE.node 4 0 xn ⟨#[]⟩ [.node k m nm md kids]).wt = xn.size + 0 + (1 + ((TE.node k m nm md kids).wt + 0)) := rfl; omega, hK.more (by omega)⟩
        · have hX : KpD (fun b => S b ∨ w0.heap.size + 2 ≤ b) (((((w6.setCell ⟨(w0.heap.size + 1), 0, none⟩ (.int .i64 4)).setCell ⟨(w0.heap.size + 1), 1, none⟩ (.int .i64 0)).setCell ⟨(w0.heap.size + 1), 2, none⟩ (.string xn)).setCell ⟨(w0.heap.size + 1), 3, none⟩ (.string ⟨#[]⟩)).setCell ⟨(w0.heap.size + 1), 4, none⟩ (.slice (some ⟨w5.heap.size + 1, 0, none⟩) 1 1)) (fun W => IsKids (IsE W 0 W.heap.size (h + 1)) W 0 W.heap.size (some ⟨w5.heap.size + 1, 0, none⟩) [.node k m nm md kids]) := kidRow ((((((unhide HK6).1.other (w0.heap.size + 1) 0 (.int .i64 4) (by have := unhide HZ5; omega)).other (w0.heap.size + 1) 1 (.int .i64 0) (by have := unhide HZ5; omega)).other (w0.heap.size + 1) 2 (.string xn) (by have := unhide HZ5; omega)).other (w0.heap.size + 1) 3 (.string ⟨#[]⟩) (by have := unhide HZ5; omega)).other (w0.heap.size + 1) 4 (.slice (some ⟨w5.heap.size + 1, 0, none⟩) 1 1) (by have := unhide HZ5; omega)) (by have := (unhide HK6).2; simpa [World.setCell] using this) (.inr (by have := unhide HZ5; omega)) (((unhide HKE).stay (((((((unhide HR6).mv.stay (fun b hb => (unhide HSB b hb).1)).set (w0.heap.size + 1) 0 (.int .i64 4) (fun hl => by omega)).set (w0.heap.size + 1) 1 (.int .i64 0) (fun hl => by omega)).set (w0.heap.size + 1) 2 (.string xn) (fun hl => by omega)).set (w0.heap.size + 1) 3 (.string ⟨#[]⟩) (fun hl => by omega)).set (w0.heap.size + 1) 4 (.slice (some ⟨w5.heap.size + 1, 0, none⟩) 1 1) (fun hl => by omega))).less (S' := fun b => S b ∨ w0.heap.size + 2 ≤ b) (fun b _ hb => .inl hb))
          have hn := (((((((((((unhide HRB6)).set 0 (.int .i64 4) (by simp))).set 1 (.int .i64 0) (by simp))).set 2 (.string xn) (by simp))).set 3 (.string ⟨#[]⟩) (by simp))).set 4 (.slice (some ⟨w5.heap.size + 1, 0, none⟩) 1 1) (by simp))
          have hK := (((((((((((unhide HR6)).set (by have := unhide HZ2; omega) (w0.heap.size + 1) 0 (.int .i64 4) (by omega))).set (by have := unhide HZ2; omega) (w0.heap.size + 1) 1 (.int .i64 0) (by omega))).set (by have := unhide HZ2; omega) (w0.heap.size + 1) 2 (.string xn) (by omega))).set (by have := unhide HZ2; omega) (w0.heap.size + 1) 3 (.string ⟨#[]⟩) (by omega))).set (by have := unhide HZ2; omega) (w0.heap.size + 1) 4 (.slice (some ⟨w5.heap.size + 1, 0, none⟩) 1 1) (by omega))
          obtain ⟨FW, hF⟩ : ∃ FW, FW = (((((w6.setCell ⟨(w0.heap.size + 1), 0, none⟩ (.int .i64 4)).setCell ⟨(w0.heap.size + 1), 1, none⟩ (.int .i64 0)).setCell ⟨(w0.heap.size + 1), 2, none⟩ (.string xn)).setCell ⟨(w0.heap.size + 1), 3, none⟩ (.string ⟨#[]⟩)).setCell ⟨(w0.heap.size + 1), 4, none⟩ (.slice (some ⟨w5.heap.size + 1, 0, none⟩) 1 1)) := ⟨_, rfl⟩
          rw [← hF] at hX hn hK ⊢
          have g0 := hn.cellAt (i := 0) rfl
          have g1 := hn.cellAt (i := 1) rfl
          have g2 := hn.cellAt (i := 2) rfl
          have g3 := hn.cellAt (i := 3) rfl
          have g4 := hn.cellAt (i := 4) rfl
          refine bodyPost_ret (v := .agg #[.int .i64 4, .int .i64 0, .string xn, .string ⟨#[]⟩, .slice (some ⟨w5.heap.size + 1, 0, none⟩) 1 1]) (by simp [results, Tryz.results40, go_sem, g0, g1, g2, g3, g4]) rfl ?_
          exact ⟨_, .node 4 0 xn ⟨#[]⟩ [.node k m nm md kids], _, rfl, ((keepE_nodeW (n := 1) hX rfl (by omega) (by omega) (by decide)).less (fun b _ hb => hb.imp id (fun h9 => by omega))).imp (fun W hW => hW.ups (by omega)), by have h1 := unhide HW5; have h2 : (TE.node 4 0 xn ⟨#[]⟩ [.node k m nm md kids]).wt = xn.size + 0 + (1 + ((TE.node k m nm md kids).wt + 0)) := rfl; omega, hK.more (by omega)⟩
        · have hX : KpD (fun b => S b ∨ w0.heap.size + 2 ≤ b) (((((w6.setCell ⟨(w0.heap.size + 1), 0, none⟩ (.int .i64 4)).setCell ⟨(w0.heap.size + 1), 1, none⟩ (.int .i64 0)).setCell ⟨(w0.heap.size + 1), 2, none⟩ (.string xn)).setCell ⟨(w0.heap.size + 1), 3, none⟩ (.string ⟨#[]⟩)).setCell ⟨(w0.heap.size + 1), 4, none⟩ (.slice (some ⟨w5.heap.size, 0, none⟩) 1 1)) (fun W => IsKids (IsE W 0 W.heap.size (h + 1)) W 0 W.heap.size (some ⟨w5.heap.size, 0, none⟩) [.node k m nm md kids]) := kidRow ((((((unhide HK6).1.other (w0.heap.size + 1) 0 (.int .i64 4) (by have := unhide HZ5; omega)).other (w0.heap.size + 1) 1 (.int .i64 0) (by have := unhide HZ5; omega)).other (w0.heap.size + 1) 2 (.string xn) (by have := unhide HZ5; omega)).other (w0.heap.size + 1) 3 (.string ⟨#[]⟩) (by have := unhide HZ5; omega)).other (w0.heap.size + 1) 4 (.slice (some ⟨w5.heap.size, 0, none⟩) 1 1) (by have := unhide HZ5; omega)) (by have := (unhide HK6).2; simpa [World.setCell] using this) (.inr (by have := unhide HZ5; omega)) (((unhide HKE).stay (((((((unhide HR6).mv.stay (fun b hb => (unhide HSB b hb).1)).set (w0.heap.size + 1) 0 (.int .i64 4) (fun hl => by omega)).set (w0.heap.size + 1) 1 (.int .i64 0) (fun hl => by omega)).set (w0.heap.size + 1) 2 (.string xn) (fun hl => by omega)).set (w0.heap.size + 1) 3 (.string ⟨#[]⟩) (fun hl => by omega)).set (w0.heap.size + 1) 4 (.slice (some ⟨w5.heap.size, 0, none⟩) 1 1) (fun hl => by omega))).less (S' := fun b => S b ∨ w0.heap.size + 2 ≤ b) (fun b _ hb => .inl hb))
          have hn := (((((((((((unhide HRB6)).set 0 (.int .i64 4) (by simp))).set 1 (.int .i64 0) (by simp))).set 2 (.string xn) (by simp))).set 3 (.string ⟨#[]⟩) (by simp))).set 4 (.slice (some ⟨w5.heap.size, 0, none⟩) 1 1) (by simp))
          have hK := (((((((((((unhide HR6)).set (by have := unhide HZ2; omega) (w0.heap.size + 1) 0 (.int .i64 4) (by omega))).set (by have := unhide HZ2; omega) (w0.heap.size + 1) 1 (.int .i64 0) (by omega))).set (by have := unhide HZ2; omega) (w0.heap.size + 1) 2 (.string xn) (by omega))).set (by have := unhide HZ2; omega) (w0.heap.size + 1) 3 (.string ⟨#[]⟩) (by omega))).set (by have := unhide HZ2; omega) (w0.heap.size + 1) 4 (.slice (some ⟨w5.heap.size, 0, none⟩) 1 1) (by omega))
          obtain ⟨FW, hF⟩ : ∃ FW, FW = (((((w6.setCell ⟨(w0.heap.size + 1), 0, none⟩ (.int .i64 4)).setCell ⟨(w0.heap.size + 1), 1, none⟩ (.int .i64 0)).setCell ⟨(w0.heap.size + 1), 2, none⟩ (.string xn)).setCell ⟨(w0.heap.size + 1), 3, none⟩ (.string ⟨#[]⟩)).setCell ⟨(w0.heap.size + 1), 4, none⟩ (.slice (some ⟨w5.heap.size, 0, none⟩) 1 1)) := ⟨_, rfl⟩
          rw [← hF] at hX hn hK ⊢
          have g0 := hn.cellAt (i := 0) rfl
          have g1 := hn.cellAt (i := 1) rfl
          have g2 := hn.cellAt (i := 2) rfl
          have g3 := hn.cellAt (i := 3) rfl
          have g4 := hn.cellAt (i := 4) rfl
          refine bodyPost_ret (v := .agg #[.int .i64 4, .int .i64 0, .string xn, .string ⟨#[]⟩, .slice (some ⟨w5.heap.size, 0, none⟩) 1 1]) (by simp [results, Tryz.results40, go_sem, g0, g1, g2, g3, g4]) rfl ?_
          exact ⟨_, .node 4 0 xn ⟨#[]⟩ [.node k m nm md kids], _, rfl, ((keepE_nodeW (n := 1) hX rfl (by omega) (by omega) (by decide)).less (fun b _ hb => hb.imp id (fun h9 => by omega))).imp (fun W hW => hW.ups (by omega)), by have h1 := unhide HW5; have h2 : (TE.node 4 0 xn ⟨#[]⟩ [.node k m nm md kids]).wt = xn.size + 0 + (1 + ((TE.node k m nm md kids).wt + 0)) := rfl; omega, hK.more (by omega)⟩
      · have hzz := unhide HZ5
        have hz2 := unhide HZ2
        have hk5 : KpD S w5 (fun W => IsKids (IsE W 0 W.heap.size h) W 0 W.heap.size sa kids) := (unhide HKK).stay ((unhide HR5).mv.stay (fun b hb => (unhide HSB b hb).1))
        obtain ⟨g, c7, w7, ps, hpf, r7, o7, d7, b7⟩ := copyK hk5 sc (by have := unhide HNM; omega) (unhide HR5) (by omega)
        have hee := (unhide HE5).below b7 (by omega)
        have hrb7 := (unhide HB5).below b7 (by omega)
        have c4 := (unhide HE5).cellAt (i := 4) rfl
        have c4' : (w5.alloc (.cells #[] 31)).cell? ⟨w0.heap.size, 4, none⟩ = some (.slice sa kids.length sc) := ((below_one w5 _).cell (p := ⟨w0.heap.size, 4, none⟩) (by show w0.heap.size < _; omega)).trans c4
        have H7 := hide (And.intro o7 (And.intro d7 (And.intro b7 (And.intro hee (And.intro hrb7 hpf)))))
        have HZ7 : Hid (w5.heap.size ≤ w7.heap.size) := hide b7.size
        clear o7 d7 b7 hee hrb7 hpf hzz hz2 hk5
        go_wp2_with (at_builtin; refine wpList_runD rfl (.tmp 82) (.tmp 84) 25 rfl rfl (.slice (some ⟨w5.heap.size, 0, none⟩) 0 0) (.slice sa kids.length sc) rfl rfl (.slice (some ⟨g, 0, none⟩) kids.length c7) w7 r7 ?_)
        refine (l22NumE_any _ _).mono ?_
        rintro r w8 ⟨rfl, hb8⟩
        obtain ⟨o7, d7, b7, hee, hrb7, hpf⟩ := unhide H7
        have hz8 := hb8.size
        have hz7 := unhide HZ7
        have hzz := unhide HZ5
        have hz2 := unhide HZ2
        have hg7 := o7.row.lt g rfl
        have hpl : ps.length = kids.length := by rw [← hpf, List.length_map]
        have o8 := (o7.mapK (fun _ _ _ hE => hE.upsK (Nat.le_succ h))).staySub ((StayD.below hb8).trans (StayD.below (below_one w8 (.cells #[.int .i64 1, .int .i64 1, .string ⟨#[]⟩, .string ⟨#[]⟩, .slice none 0 0] 31)))) (fun x hx => .inr (by have := o7.row.lt x hx; omega))
        obtain ⟨ie, hei, hez0, hez1, hez2⟩ := info_parts infoE
        rw [← hpl] at o8
        obtain ⟨g10, c10, w10, r10, o10, y10, l10⟩ := o8.moreW (by rw [alloc_size]; omega) 25 ie _ 72 Tryz.underlying25 hei hez0 hez1 hez2 rfl (by omega) (by omega) ⟨w8.heap.size, 0, none⟩ 1 [(.node 1 1 ⟨#[]⟩ ⟨#[]⟩ [], [.int .i64 1, .int .i64 1, .string ⟨#[]⟩, .string ⟨#[]⟩, .slice none 0 0])] (by simp) (by
          intro y hy
          rw [List.mem_singleton] at hy
          subst hy
          refine ⟨rfl, fun u hu => ?_⟩
          simp only [List.mem_cons, List.not_mem_nil, or_false] at hu
          rcases hu with rfl | rfl | rfl | rfl | rfl <;> rfl) (fun i u hu => by
          rw [Addr.add_lit, Nat.zero_add, alloc_cell]
          simpa using hu) (by have := unhide HNM; rw [List.length_singleton]; omega) (by
          intro y hy
          rw [List.mem_singleton] at hy
          subst hy
          exact (keepE_leaf (Nat.zero_le _) (Nat.zero_le _)).imp (fun W hW => EltE.of hW))
        simp only [List.length_singleton, hpl] at r10 o10
        have hz10 := y10.size
        rw [alloc_size] at hz10
        have hd10 := ((d7.below (by omega) hb8).alloc (by omega) (.cells #[.int .i64 1, .int .i64 1, .string ⟨#[]⟩, .string ⟨#[]⟩, .slice none 0 0] 31)).grown (v := .slice (some ⟨g, 0, none⟩) 0 0) (by omega) y10 (fun x hx => by have : g = x := Option.some.inj hx; omega)
        have hgne : ∀ b, b < w5.heap.size → some b ≠ (Value.slice (some ⟨g, 0, none⟩) ps.length c7).ownBlock := fun b hb e => by have := Option.some.inj (show some b = some g from e); omega
        have hee10 := ((hee.below hb8 (by omega)).old (.cells #[.int .i64 1, .int .i64 1, .string ⟨#[]⟩, .string ⟨#[]⟩, .slice none 0 0] 31) (by omega)).ofb (y10.block w0.heap.size (by rw [alloc_size]; omega) (hgne _ (by omega)))
        have hrb10 := ((hrb7.below hb8 (by omega)).old (.cells #[.int .i64 1, .int .i64 1, .string ⟨#[]⟩, .string ⟨#[]⟩, .slice none 0 0] 31) (by omega)).ofb (y10.block (w0.heap.size + 1) (by rw [alloc_size]; omega) (hgne _ (by omega)))
        have d0 := hee10.cellAt (i := 0) rfl
        have d1 := hee10.cellAt (i := 1) rfl
        have d2 := hee10.cellAt (i := 2) rfl
        have d3 := hee10.cellAt (i := 3) rfl
        have d4 := hee10.cellAt (i := 4) rfl
        have z4 := hee10.2 4
        have H10 := hide (And.intro o10 (And.intro hd10 hrb10))
        have HPF := hide hpf
        have HZ10 : Hid (w0.heap.size + 2 ≤ w5.heap.size ∧ w5.heap.size < w10.heap.size) := hide (by omega)
        have HKD := hide (o10.readsSub (fun x hx => .inr (o10.row.lt x hx).1))
        have b0 := (hrb10).cellAt (i := 0) rfl
        have y0 := (hrb10).2 0
        have b1 := (hrb10).cellAt (i := 1) rfl
        have y1 := (hrb10).2 1
        have b2 := (hrb10).cellAt (i := 2) rfl
        have y2 := (hrb10).2 2
        have b3 := (hrb10).cellAt (i := 3) rfl
        have y3 := (hrb10).2 3
        have b4 := (hrb10).cellAt (i := 4) rfl
        have y4 := (hrb10).2 4
        clear o7 d7 b7 hee hrb7 hz8 hz7 hzz hz2 hg7 o8 hei hez0 hez1 hez2 o10 y10 l10 hz10 hd10 hgne hee10 hrb10 hb8 hpf
        have hne1 : w0.heap.size + 1 ≠ w0.heap.size := by omega
        go_wp2_with (at_builtin; refine wpList_runD rfl (.tmp 85) (.tmp 87) 25 rfl rfl (.slice (some ⟨g, 0, none⟩) kids.length c7) (.slice (some ⟨w8.heap.size, 0, none⟩) 1 1) rfl rfl (.slice (some ⟨g10, 0, none⟩) (kids.length + 1) c10) w10 r10 ?_)
        have hn := ((((((((((((unhide H10).2.2.other w0.heap.size 4 (.slice (some ⟨g10, 0, none⟩) (kids.length + 1) c10) (by omega))).set 0 (.int .i64 k) (by simp))).set 1 (.int .i64 m) (by simp))).set 2 (.string nm) (by simp))).set 3 (.string md) (by simp))).set 4 (.slice (some ⟨g10, 0, none⟩) (kids.length + 1) c10) (by simp))
        have hK := ((((((((((((unhide H10).2.1.set (by have := unhide HZ2; omega) w0.heap.size 4 (.slice (some ⟨g10, 0, none⟩) (kids.length + 1) c10) (Nat.le_refl _))).set (by have := unhide HZ2; omega) (w0.heap.size + 1) 0 (.int .i64 k) (by omega))).set (by have := unhide HZ2; omega) (w0.heap.size + 1) 1 (.int .i64 m) (by omega))).set (by have := unhide HZ2; omega) (w0.heap.size + 1) 2 (.string nm) (by omega))).set (by have := unhide HZ2; omega) (w0.heap.size + 1) 3 (.string md) (by omega))).set (by have := unhide HZ2; omega) (w0.heap.size + 1) 4 (.slice (some ⟨g10, 0, none⟩) (kids.length + 1) c10) (by omega))
        obtain ⟨FW, hF⟩ : ∃ FW, FW = ((((((w10.setCell ⟨w0.heap.size, 4, none⟩ (.slice (some ⟨g10, 0, none⟩) (kids.length + 1) c10)).setCell ⟨(w0.heap.size + 1), 0, none⟩ (.int .i64 k)).setCell ⟨(w0.heap.size + 1), 1, none⟩ (.int .i64 m)).setCell ⟨(w0.heap.size + 1), 2, none⟩ (.string nm)).setCell ⟨(w0.heap.size + 1), 3, none⟩ (.string md)).setCell ⟨(w0.heap.size + 1), 4, none⟩ (.slice (some ⟨g10, 0, none⟩) (kids.length + 1) c10)) := ⟨_, rfl⟩
        rw [← hF] at hn hK ⊢
        have g0 := hn.cellAt (i := 0) rfl
        have g1 := hn.cellAt (i := 1) rfl
        have g2 := hn.cellAt (i := 2) rfl
        have g3 := hn.cellAt (i := 3) rfl
        have g4 := hn.cellAt (i := 4) rfl
        refine bodyPost_ret (v := .agg #[.int .i64 k, .int .i64 m, .string nm, .string md, .slice (some ⟨g10, 0, none⟩) (kids.length + 1) c10]) (by simp [results, Tryz.results40, go_sem, g0, g1, g2, g3, g4]) rfl ?_
        refine ⟨_, .node k m nm md (kids ++ [.node 1 1 ⟨#[]⟩ ⟨#[]⟩ []]), _, rfl, ?_, ?_, hK.more (by omega)⟩
        · have hs1 : StayD (fun b => S b ∨ w5.heap.size ≤ b) w10 FW := by
            have hno : ∀ R, R = w0.heap.size ∨ R = w0.heap.size + 1 → ¬ (S R ∨ w5.heap.size ≤ R) := fun R hR h => by
              have h9 := unhide HZ10
              rcases h with h | h
              · have := (unhide HSB R h).2; omega
              · omega
            rw [hF]
            exact ((((((StayD.refl _ w10).set w0.heap.size 4 _ (fun _ => hno _ (.inl rfl))).set (w0.heap.size + 1) 0 _ (fun _ => hno _ (.inr rfl))).set (w0.heap.size + 1) 1 _ (fun _ => hno _ (.inr rfl))).set (w0.heap.size + 1) 2 _ (fun _ => hno _ (.inr rfl))).set (w0.heap.size + 1) 3 _ (fun _ => hno _ (.inr rfl))).set (w0.heap.size + 1) 4 _ (fun _ => hno _ (.inr rfl))
          have hkd := ((unhide HKD).stay hs1).imp (fun W hW => hW.kids)
          rw [List.map_append, unhide HPF] at hkd
          exact ((keepE_nodeW (n := kids.length + 1) hkd (by simp) (by have := unhide HNM; omega) (by have := unhide HNM; omega) (by have := unhide HNM; omega)).less (fun b _ h => h.imp id (fun h9 => by have := unhide HZ10; omega))).imp (fun W hW => hW.ups (by omega))
        · have h1 := unhide HW5
          have h2 : (TE.node k m nm md (kids ++ [TE.node 1 1 ⟨#[]⟩ ⟨#[]⟩ []])).wt = nm.size + md.size + ((kids ++ [TE.node 1 1 ⟨#[]⟩ ⟨#[]⟩ []]).length + wtL (kids ++ [TE.node 1 1 ⟨#[]⟩ ⟨#[]⟩ []])) := by simp [TE.wt]
          rw [wtL_append, List.length_append] at h2
          have h3 : wtL [TE.node 1 1 ⟨#[]⟩ ⟨#[]⟩ []] = 0 := by simp [wtL, TE.wt, emp_size]
          rw [h3, List.length_singleton] at h2
          omega
      · have hrb := unhide HB5
        have hml : w0.heap.size + 1 < w5.heap.size := by have := unhide HZ5; omega
        have hee := unhide HE5
        have c0 := hee.cellAt (i := 0) rfl
        have c1 := hee.cellAt (i := 1) rfl
        have c2 := hee.cellAt (i := 2) rfl
        have c3 := hee.cellAt (i := 3) rfl
        have c4 := hee.cellAt (i := 4) rfl
        have b0 := (hrb).cellAt (i := 0) rfl
        have y0 := (hrb).2 0
        have b1 := (hrb).cellAt (i := 1) rfl
        have y1 := (hrb).2 1
        have b2 := (hrb).cellAt (i := 2) rfl
        have y2 := (hrb).2 2
        have b3 := (hrb).cellAt (i := 3) rfl
        have y3 := (hrb).2 3
        have b4 := (hrb).cellAt (i := 4) rfl
        have y4 := (hrb).2 4
        clear hrb hee
        go_wp2
        have hX : KpD (fun b => S b ∨ w0.heap.size + 2 ≤ b) ((((((w5.setCell ⟨(w0.heap.size + 1), 0, none⟩ (.int .i64 6)).setCell ⟨(w0.heap.size + 1), 1, none⟩ (.int .i64 0)).setCell ⟨(w0.heap.size + 1), 2, none⟩ (.string ⟨#[120]⟩)).setCell ⟨(w0.heap.size + 1), 3, none⟩ (.string ⟨#[]⟩)).setCell ⟨(w0.heap.size + 1), 4, none⟩ (.slice (some ⟨w5.heap.size, 0, none⟩) 2 2)).alloc (.cells #[.int .i64 k, .int .i64 m, .string nm, .string md, .slice sa kids.length sc, .int .i64 k, .int .i64 m, .string nm, .string md, .slice sa kids.length sc] 31)) (fun W => IsKids (IsE W 0 W.heap.size (h + 1)) W 0 W.heap.size (some ⟨w5.heap.size, 0, none⟩) [.node k m nm md kids, .node k m nm md kids]) := rowK (w := w5) (WS := (((((w5.setCell ⟨(w0.heap.size + 1), 0, none⟩ (.int .i64 6)).setCell ⟨(w0.heap.size + 1), 1, none⟩ (.int .i64 0)).setCell ⟨(w0.heap.size + 1), 2, none⟩ (.string ⟨#[120]⟩)).setCell ⟨(w0.heap.size + 1), 3, none⟩ (.string ⟨#[]⟩)).setCell ⟨(w0.heap.size + 1), 4, none⟩ (.slice (some ⟨w5.heap.size, 0, none⟩) 2 2))) (by simp [World.setCell]) [(.node k m nm md kids, [.int .i64 k, .int .i64 m, .string nm, .string md, .slice sa kids.length sc]), (.node k m nm md kids, [.int .i64 k, .int .i64 m, .string nm, .string md, .slice sa kids.length sc])] 31 (.inr (by have := unhide HZ5; omega)) (by
          intro y hy
          simp only [List.mem_cons, List.not_mem_nil, or_false] at hy
          rcases hy with rfl | rfl
          all_goals
            refine ⟨rfl, fun u hu => ?_⟩
            simp only [List.mem_cons, List.not_mem_nil, or_false] at hu
            rcases hu with rfl | rfl | rfl | rfl | rfl <;> rfl) (by
          intro y hy
          have hst : StayD S w0 (((((w5.setCell ⟨(w0.heap.size + 1), 0, none⟩ (.int .i64 6)).setCell ⟨(w0.heap.size + 1), 1, none⟩ (.int .i64 0)).setCell ⟨(w0.heap.size + 1), 2, none⟩ (.string ⟨#[120]⟩)).setCell ⟨(w0.heap.size + 1), 3, none⟩ (.string ⟨#[]⟩)).setCell ⟨(w0.heap.size + 1), 4, none⟩ (.slice (some ⟨w5.heap.size, 0, none⟩) 2 2)) := (((((((unhide HR5).mv.stay (fun b hb => (unhide HSB b hb).1)).set (w0.heap.size + 1) 0 (.int .i64 6) (fun hl => by omega)).set (w0.heap.size + 1) 1 (.int .i64 0) (fun hl => by omega)).set (w0.heap.size + 1) 2 (.string ⟨#[120]⟩) (fun hl => by omega)).set (w0.heap.size + 1) 3 (.string ⟨#[]⟩) (fun hl => by omega)).set (w0.heap.size + 1) 4 (.slice (some ⟨w5.heap.size, 0, none⟩) 2 2) (fun hl => by omega))
          have hke := ((((unhide HKE).stay hst).less (S' := fun b => S b ∨ w0.heap.size + 2 ≤ b) (fun b _ h => .inl h))).imp (fun W hW => EltE.of hW)
          simp only [List.mem_cons, List.not_mem_nil, or_false] at hy
          rcases hy with rfl | rfl
          · exact hke
          · exact hke)
        have hn := (((((((((((((unhide HB5)).set 0 (.int .i64 6) (by simp))).set 1 (.int .i64 0) (by simp))).set 2 (.string ⟨#[120]⟩) (by simp))).set 3 (.string ⟨#[]⟩) (by simp))).set 4 (.slice (some ⟨w5.heap.size, 0, none⟩) 2 2) (by simp))).old (.cells #[.int .i64 k, .int .i64 m, .string nm, .string md, .slice sa kids.length sc, .int .i64 k, .int .i64 m, .string nm, .string md, .slice sa kids.length sc] 31) (by simp [World.setCell]; exact hml))
        have hK := (((((((((((((unhide HR5)).set (by have := unhide HZ2; omega) (w0.heap.size + 1) 0 (.int .i64 6) (by omega))).set (by have := unhide HZ2; omega) (w0.heap.size + 1) 1 (.int .i64 0) (by omega))).set (by have := unhide HZ2; omega) (w0.heap.size + 1) 2 (.string ⟨#[120]⟩) (by omega))).set (by have := unhide HZ2; omega) (w0.heap.size + 1) 3 (.string ⟨#[]⟩) (by omega))).set (by have := unhide HZ2; omega) (w0.heap.size + 1) 4 (.slice (some ⟨w5.heap.size, 0, none⟩) 2 2) (by omega))).alloc (by have := unhide HZ2; omega) (.cells #[.int .i64 k, .int .i64 m, .string nm, .string md, .slice sa kids.length sc, .int .i64 k, .int .i64 m, .string nm, .string md, .slice sa kids.length sc] 31))
        obtain ⟨FW, hF⟩ : ∃ FW, FW = ((((((w5.setCell ⟨(w0.heap.size + 1), 0, none⟩ (.int .i64 6)).setCell ⟨(w0.heap.size + 1), 1, none⟩ (.int .i64 0)).setCell ⟨(w0.heap.size + 1), 2, none⟩ (.string ⟨#[120]⟩)).setCell ⟨(w0.heap.size + 1), 3, none⟩ (.string ⟨#[]⟩)).setCell ⟨(w0.heap.size + 1), 4, none⟩ (.slice (some ⟨w5.heap.size, 0, none⟩) 2 2)).alloc (.cells #[.int .i64 k, .int .i64 m, .string nm, .string md, .slice sa kids.length sc, .int .i64 k, .int .i64 m, .string nm, .string md, .slice sa kids.length sc] 31)) := ⟨_, rfl⟩
        rw [← hF] at hX hn hK ⊢
        have g0 := hn.cellAt (i := 0) rfl
        have g1 := hn.cellAt (i := 1) rfl
        have g2 := hn.cellAt (i := 2) rfl
        have g3 := hn.cellAt (i := 3) rfl
        have g4 := hn.cellAt (i := 4) rfl
        refine bodyPost_ret (v := .agg #[.int .i64 6, .int .i64 0, .string ⟨#[120]⟩, .string ⟨#[]⟩, .slice (some ⟨w5.heap.size, 0, none⟩) 2 2]) (by simp [results, Tryz.results40, go_sem, g0, g1, g2, g3, g4]) rfl ?_
        exact ⟨_, .node 6 0 ⟨#[120]⟩ ⟨#[]⟩ [.node k m nm md kids, .node k m nm md kids], _, rfl, ((keepE_node (n := 2) hX rfl (by omega) (by decide) (by decide)).less (fun b _ h => h.imp id (fun h9 => by omega))).imp (fun W hW => hW.ups (by omega)), by have h1 := unhide HW5; have h2 : (⟨#[120]⟩ : ByteArray).size ≤ 5 := (by decide); have h3 : (TE.node 6 0 ⟨#[120]⟩ ⟨#[]⟩ [.node k m nm md kids, .node k m nm md kids]).wt = (⟨#[120]⟩ : ByteArray).size + 0 + (2 + ((TE.node k m nm md kids).wt + ((TE.node k m nm md kids).wt + 0))) := rfl; omega, hK.more (by omega)⟩

/-- Turning an expression of whatever height. -/
theorem turn_any : ∀ h, TurnD h
  | 0 => fun _ _ _ _ _ _ _ _ _ _ _ _ _ hke _ _ => hke.now.elim
  | h + 1 => turn_succ h (turn_any h)
end Go.Proofs.YtffabnmgcicpiaaGreat
