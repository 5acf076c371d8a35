/- The walk of l22Mod. Conditions: what is handed in can be read, and stays. -/
import Derived.Test.YtffabnmgcicpiaaGreatDmp
import Derived.Test.YtffabnmgcicpiaaGreatG9
import Derived.Deep.CutRange
import Derived.Deep.RegionHeld3
namespace Go.Proofs.YtffabnmgcicpiaaGreat
open Go.RowKit Go.PlainAid


set_option maxRecDepth 100000 in
set_option maxHeartbeats 16000000 in
theorem l22Mod_any (B : Nat) (a : Option Addr) (len cap : Nat) (ua : Option Addr) (uc : Nat) (uses : List ByteArray) (sa : Option Addr) (sc : Nat) (ss : List (SG × List Value)) (w0 : World) (p : Nat)
    (h : IsRd w0 B a len cap p) (hB : B < w0.heap.size) (hp : p ≤ 800000000000) (hu : KpD (fun b => b ≠ B) w0 (fun W => IsWds W 0 W.heap.size ua uses)) (hul : uses.length ≤ 4) (hun : ∀ x ∈ uses, x.size ≤ 8) (hs : KpD (fun b => b ≠ B) w0 (ReadD EltS 4 sa ss)) (hss : (∀ s ∈ ss, SgOk s.1) ∧ ss.length ≤ 100) :
    Calls Tryz.prog 37 #[.pointer (some ⟨B, 0, none⟩), .slice ua uses.length uc, .slice sa ss.length sc] w0 fun r w' => ∃ (v : Value) (m : TM) (q : Nat), r = .returned v ∧ KpD (fun b => w0.heap.size ≤ b) w' (fun W => IsMod W 0 W.heap.size 7 v m) ∧ m.uses.length ≤ 4 ∧ (∀ x ∈ m.uses, x.size ≤ 8) ∧ m.funs.length ≤ 3 ∧ (∀ x ∈ m.funs, FOk x) ∧ m.wt ≤ 40000 ∧ RdM B a len cap 100000 w0 w' p q := by
  obtain ⟨iw, hwi, hwz0, hwz1, hwz2⟩ := info_parts infoW
  obtain ⟨is, hsi, hsz0, hsz1, hsz2⟩ := info_parts infoSigL
  obtain ⟨M0, hM0⟩ : ∃ M0, w0.heap.size = M0 := ⟨_, rfl⟩
  -- the result's block, and the row of uses
  obtain ⟨W1, hW1⟩ : ∃ W1, W1 = (w0.alloc (.cells #[.slice none 0 0, .slice none 0 0, .slice none 0 0] 27)).alloc (.cells #[] 9) := ⟨_, rfl⟩
  have hb1 : Below M0 w0 W1 := by rw [hW1, ← hM0]; exact ((Below.refl _ _).alloc (Nat.le_refl _) _).alloc (by simp) _
  have hz1 : W1.heap.size = M0 + 2 := by rw [hW1, ← hM0]; simp
  have hO1 : OwnD EltW 1 9 (fun b => M0 + 1 ≤ b) (M0 + 1) W1 (.slice (some ⟨M0 + 1, 0, none⟩) 0 0) [] := by
    have := OwnD.made EltW 1 9 (fun b => M0 + 1 ≤ b) (w0.alloc (.cells #[.slice none 0 0, .slice none 0 0, .slice none 0 0] 27))
    rw [alloc_size, hM0] at this
    rw [hW1]; exact this
  have hM1 : Blk W1 M0 [.slice none 0 0, .slice none 0 0, .slice none 0 0] := by rw [hW1, ← hM0]; exact (Blk.new w0 [.slice none 0 0, .slice none 0 0, .slice none 0 0] 27).old _ (by simp)
  have hrd1 : RdM B a len cap 0 w0 W1 p p := by rw [hW1]; exact ((RdM.refl h).alloc hB _).alloc hB _
  obtain ⟨gu, cu, W2, r2, hO2, y2, l2⟩ := appAll hO1 (by omega) 23 iw _ 16 Tryz.underlying23 hwi hwz0 hwz1 hwz2 rfl (by omega) (by omega) ua uc (wordsP uses) (wordsP_one uses) ((hu W1 (hrd1.mv.stay (fun _ h => h))).srcs) (by rw [wordsP_len]; simp; omega) (fun p hp => by
    obtain ⟨x, hx, rfl⟩ := List.mem_map.1 hp
    exact fun _ _ => ⟨rfl, show x.size ≤ maxLen by have := hun x hx; unfold maxLen; omega⟩)
  rw [List.nil_append] at hO2
  simp only [List.length_nil, Nat.zero_add, wordsP_len] at r2 hO2
  have hz2 : M0 + 2 ≤ W2.heap.size := by rw [← hz1]; exact y2.size
  have hgu : M0 + 1 ≤ gu ∧ gu < W2.heap.size := hO2.row.lt gu rfl
  have hM2 : Blk W2 M0 [.slice none 0 0, .slice none 0 0, .slice none 0 0] := hM1.ofb (y2.block M0 (by omega) (by simp))
  have hrd2 : RdM B a len cap 0 w0 W2 p p := hrd1.grown hB y2 (v := .slice (some ⟨M0 + 1, 0, none⟩) 0 0) (fun k hk => by have : M0 + 1 = k := Option.some.inj hk; omega)
  -- the module's block, and the row of what may be called
  obtain ⟨MB, hMB⟩ : ∃ MB, W2.heap.size = MB := ⟨_, rfl⟩
  obtain ⟨W3, hW3⟩ : ∃ W3, W3 = (W2.alloc (.cells #[.slice (some ⟨gu, 0, none⟩) uses.length cu, .slice none 0 0, .slice none 0 0] 27)).alloc (.cells #[] 102) := ⟨_, rfl⟩
  have hb3 : Below W2.heap.size W2 W3 := by rw [hW3]; exact ((Below.refl _ _).alloc (Nat.le_refl _) _).alloc (by simp) _
  have hz3 : W3.heap.size = MB + 2 := by rw [hW3, ← hMB]; simp
  have hMB3 : Blk W3 MB [.slice (some ⟨gu, 0, none⟩) uses.length cu, .slice none 0 0, .slice none 0 0] := by
    rw [hW3, ← hMB]; exact (Blk.new W2 [.slice (some ⟨gu, 0, none⟩) uses.length cu, .slice none 0 0, .slice none 0 0] 27).old _ (by simp)
  have hO3 : OwnD EltS 4 102 (fun b => b ≠ B ∧ b ≠ M0 ∧ b ≠ MB) (MB + 1) W3 (.slice (some ⟨MB + 1, 0, none⟩) 0 0) [] := by
    have := OwnD.made EltS 4 102 (fun b => b ≠ B ∧ b ≠ M0 ∧ b ≠ MB) (W2.alloc (.cells #[.slice (some ⟨gu, 0, none⟩) uses.length cu, .slice none 0 0, .slice none 0 0] 27))
    rw [alloc_size, hMB] at this
    rw [hW3]; exact this
  have hrd3 : RdM B a len cap 0 w0 W3 p p := by rw [hW3]; exact (hrd2.alloc hB _).alloc hB _
  have hold3 : ∀ b, b < M0 → b ≠ B → W3.heap[b]? = w0.heap[b]? := fun b hb hne => hrd3.mv.2 b (by omega) hne
  obtain ⟨go, oc, W4, r4, hO4, y4, l4⟩ := appAll hO3 (by omega) 84 is _ 64 Tryz.underlying84 hsi hsz0 hsz1 hsz2 rfl (by omega) (by omega) sa sc ss (by
    intro q hq
    rcases hs.now with h0 | ⟨g, _, _, hc⟩
    · rw [h0] at hq; cases hq
    · obtain ⟨j, hj, rfl⟩ := List.getElem_of_mem hq
      obtain ⟨_, hl, aa, ca, e, _⟩ := hc j hj
      refine ⟨hl, fun u hu => ?_⟩
      rw [e] at hu
      simp only [List.mem_cons, List.not_mem_nil, or_false] at hu
      rcases hu with rfl | rfl | rfl | rfl <;> rfl) ((hs W3 (hrd3.mv.stay (fun _ h => h))).srcs (by omega)) (by have := hss.2; simp; omega) (by
    intro q hq W hW
    have hh := hs W ⟨Nat.le_trans hrd3.size hW.1, fun b hb hne => (hW.2 b (Nat.lt_of_lt_of_le hb hrd3.size) ⟨⟨hne, by omega, by omega⟩, fun e => by have := Option.some.inj e; omega⟩).trans (hold3 b (by omega) hne)⟩
    rcases hh with h0 | ⟨g, _, _, hc⟩
    · rw [h0] at hq; cases hq
    · obtain ⟨j, hj, rfl⟩ := List.getElem_of_mem hq
      exact (hc j hj).2.2)
  rw [List.nil_append] at hO4
  simp only [List.length_nil, Nat.zero_add] at r4 hO4
  have hz4 : MB + 2 ≤ W4.heap.size := by rw [← hz3]; exact y4.size
  have hgo : MB + 1 ≤ go ∧ go < W4.heap.size := hO4.row.lt go rfl
  have hrd4 : RdM B a len cap 0 w0 W4 p p := hrd3.grown hB y4 (v := .slice (some ⟨MB + 1, 0, none⟩) 0 0) (fun k hk => by have : MB + 1 = k := Option.some.inj hk; omega)
  have hMB4 : Blk W4 MB [.slice (some ⟨gu, 0, none⟩) uses.length cu, .slice none 0 0, .slice none 0 0] := hMB3.ofb (y4.block MB (by omega) (by simp))
  -- the names
  obtain ⟨NB, hNB⟩ : ∃ NB, W4.heap.size = NB := ⟨_, rfl⟩
  obtain ⟨W5, hW5⟩ : ∃ W5, W5 = W4.alloc (.cells #[.string ⟨#[102]⟩, .string ⟨#[103]⟩, .string ⟨#[104]⟩, .string ⟨#[115, 117, 109]⟩] 9) := ⟨_, rfl⟩
  have hb5 : Below W4.heap.size W4 W5 := by rw [hW5]; exact below_one W4 _
  have hz5 : W5.heap.size = NB + 1 := by rw [hW5, ← hNB]; simp
  have hNB5 : Blk W5 NB [.string ⟨#[102]⟩, .string ⟨#[103]⟩, .string ⟨#[104]⟩, .string ⟨#[115, 117, 109]⟩] := by rw [hW5, ← hNB]; exact Blk.new W4 [.string ⟨#[102]⟩, .string ⟨#[103]⟩, .string ⟨#[104]⟩, .string ⟨#[115, 117, 109]⟩] 9
  have hMB5 := hMB4.below hb5 (by omega)
  have hO5 : OwnD EltS 4 102 (fun b => (b ≠ B ∧ b ≠ M0 ∧ b ≠ MB) ∧ some b ≠ none) (MB + 1) W5 (.slice (some ⟨go, 0, none⟩) ss.length oc) ss := (hO4.staySub (StayD.below hb5) (fun g hg => by have : go = g := Option.some.inj hg; exact ⟨by omega, by omega, by omega⟩)).lessS (fun b _ h => ⟨h, by simp⟩)
  have hrd5 : RdM B a len cap 0 w0 W5 p p := by rw [hW5]; exact hrd4.alloc hB _
  have hM5 : Blk W5 M0 [.slice none 0 0, .slice none 0 0, .slice none 0 0] := by
    have h1 := hM2.below hb3 (by omega)
    exact (h1.ofb (y4.block M0 (by omega) (by simp; omega))).below hb5 (by omega)
  have hU5 : OwnD EltW 1 9 (fun b => b = gu) (M0 + 1) W5 (.slice (some ⟨gu, 0, none⟩) uses.length cu) (wordsP uses) := by
    have h0 : OwnD EltW 1 9 (fun b => b = gu) (M0 + 1) W2 (.slice (some ⟨gu, 0, none⟩) uses.length cu) (wordsP uses) := ⟨by have := hO2.row; rw [wordsP_len] at this ⊢; exact this, hO2.one, fun p hp _ _ => (hO2.els p hp).now⟩
    refine h0.staySub ⟨by omega, fun b hb hs => ?_⟩ (fun g hg => (Option.some.inj (show some gu = some g from hg)).symm)
    subst hs
    exact (hb5.block _ (by omega)).trans ((y4.block _ (by omega) (fun e => by have := Option.some.inj e; omega)).trans (hb3.block _ hb))
  have HPK := hide (pick_rd B a len cap p 4 W5 hrd5.rd (by omega) (by omega))
  have HW5 := hide hrd5
  have HO5 := hide hO5
  have HM5 := hide hM5
  have HU5 := hide hU5
  have HB5 := hide hMB5
  have HN5 := hide hNB5
  have HZ5 := hide hz5
  have HGU := hide hgu
  have HGO := hide hgo
  have HZZ : Hid (B < M0 ∧ M0 + 2 ≤ MB ∧ MB + 2 ≤ NB ∧ gu < MB ∧ w0.heap.size = M0) := hide ⟨by omega, by omega, by omega, by omega, hM0⟩
  have HSS := hide hss
  have HUN := hide (And.intro hul hun)
  clear hrd1 hrd2 hrd3 hrd4 hrd5 hO1 hO2 hO3 hO4 hO5 hM1 hM2 hM5 hU5 hMB3 hMB4 hMB5 hNB5 hz1 hz2 hz3 hz4 hz5 hgu hgo hss hul hun hb1 hb3 hb5 hold3 y2 y4 l2 l4 hu hs h hwi hwz0 hwz1 hwz2 hsi hsz0 hsz1 hsz2 hB
  rw [hW1] at r2
  rw [hW3] at r4
  clear hW1 hW3
  subst hM0 hMB hNB
  go_enter Tryz.func37, Tryz.ntmps37
  go_wp2_with (at_builtin; first | refine wpList_runD rfl (.tmp 16) (.tmp 17) 23 rfl rfl (.slice (some ⟨w0.heap.size + 1, 0, none⟩) 0 0) (.slice ua uses.length uc) rfl rfl (.slice (some ⟨gu, 0, none⟩) uses.length cu) W2 r2 ?_ | refine wpList_runD rfl (.tmp 20) (.tmp 21) 84 rfl rfl (.slice (some ⟨W2.heap.size + 1, 0, none⟩) 0 0) (.slice sa ss.length sc) rfl rfl (.slice (some ⟨go, 0, none⟩) ss.length oc) W4 r4 ?_)
  rw [← hW5]
  clear hW5 r2 r4
  refine (unhide HPK).mono ?_
  rintro r w6 ⟨i0, rfl, i1, i2, hk6, -⟩
  have i3 := i2 (by omega)
  obtain ⟨kk, rfl⟩ := Int.eq_ofNat_of_zero_le i1
  have hz6 := hk6.size
  have zz := unhide HZZ
  have HR6 := hide ((unhide HW5).trans hk6)
  have HB6 := hide ((unhide HB5).ofb (hk6.mv.2 W2.heap.size (by have := unhide HZ5; omega) (by omega)))
  have HO6 : Hid (OwnD EltS 4 102 (fun b => (b ≠ B ∧ b ≠ w0.heap.size ∧ b ≠ W2.heap.size) ∧ some b ≠ (Value.slice none 0 0).ownBlock) (W2.heap.size + 1) w6 (.slice (some ⟨go, 0, none⟩) ss.length oc) ss) := hide ((unhide HO5).staySub (hk6.mv.stay (fun b h => h.1.1)) (fun g hg => by
    have hgo := unhide HGO
    have : go = g := Option.some.inj hg
    exact ⟨⟨by omega, by omega, by omega⟩, by simp⟩))
  have HF6 : Hid (OwnD (EltF 3) 9 33 (fun b => (w0.heap.size < b ∧ b ≠ W2.heap.size) ∧ some b ≠ some go) (W2.heap.size + 1) w6 (.slice none 0 0) []) := hide (OwnD.nil _ _ _ _ _ _)
  have HX6 : Hid ((Value.slice none 0 0).ownBlock ≠ some go ∧ (Value.slice none 0 0).ownBlock ≠ some W4.heap.size ∧ go ≠ W4.heap.size ∧ W4.heap.size < w6.heap.size) := hide ⟨(fun h => by cases h), (fun h => by cases h), by have := unhide HGO; omega, by have := unhide HZ5; omega⟩
  have HT6 : Hid (StayD (fun b => b = gu ∨ b = w0.heap.size ∨ b = W4.heap.size) W5 w6) := hide (hk6.mv.stay (fun b h => by have := unhide HGU; rcases h with h | h | h <;> omega))
  have hZ6 := unhide HZ5
  clear i1 i2 hk6 hz6 zz HW5 HB5 HO5 HPK hZ6
  go_wp2
  go_loopw [8, 10] (fun own iv wq => ∃ (k q : Nat) (fs : List (TF × List Value)) (fa : Option Addr) (fc : Nat) (os : List (SG × List Value)) (og oc : Nat), own = .slice (some ⟨og, 0, none⟩) os.length oc ∧ iv = .int .i64 k ∧ fs.length + k ≤ 3 ∧ Hid (RdM B a len cap (1 + 12 * fs.length) w0 wq p q) ∧ Hid (Blk wq W2.heap.size [.slice (some ⟨gu, 0, none⟩) uses.length cu, .slice fa fs.length fc, .slice none 0 0]) ∧
    Hid (OwnD (EltF 3) 9 33 (fun b => (w0.heap.size < b ∧ b ≠ W2.heap.size) ∧ some b ≠ some og) (W2.heap.size + 1) wq (.slice fa fs.length fc) fs) ∧ Hid (OwnD EltS 4 102 (fun b => (b ≠ B ∧ b ≠ w0.heap.size ∧ b ≠ W2.heap.size) ∧ some b ≠ (Value.slice fa fs.length fc).ownBlock) (W2.heap.size + 1) wq (.slice (some ⟨og, 0, none⟩) os.length oc) os) ∧
    Hid ((Value.slice fa fs.length fc).ownBlock ≠ some og ∧ (Value.slice fa fs.length fc).ownBlock ≠ some W4.heap.size ∧ og ≠ W4.heap.size ∧ W4.heap.size < wq.heap.size) ∧ Hid (StayD (fun b => b = gu ∨ b = w0.heap.size ∨ b = W4.heap.size) W5 wq) ∧ Hid (∀ x ∈ fs, FOk x.1 ∧ x.1.body.wt ≤ 10) ∧ Hid ((∀ x ∈ os, SgOk x.1) ∧ os.length ≤ 100 + fs.length)) (fun _ iv _ => (intOf iv).toNat)
  case atStart => exact ⟨kk, _, [], none, 0, ss, go, oc, rfl, rfl, by simp; omega, hide ((unhide HR6).more (by simp)), HB6, HF6, HO6, HX6, HT6, hide (fun x hx => absurd hx List.not_mem_nil), hide ⟨(unhide HSS).1, by have := (unhide HSS).2; simp; omega⟩⟩
  case round =>
    clear HR6 HB6 HO6 HF6 HX6 HT6 i3
    obtain ⟨k, q, fs, fa, fc, os, og, oc', rfl, rfl, hk, HRD, HMB, HFF, HOO, HXX, HTT, HFP, HOP⟩ := hrel
    have hq : q ≤ p + 40 := by have := (unhide HRD).le; omega
    by_cases hk0 : 0 < k
    · obtain ⟨nm, hnm⟩ : ∃ nm, nmF k = nm := ⟨_, rfl⟩
      have hnb : Blk wr W4.heap.size [.string ⟨#[102]⟩, .string ⟨#[103]⟩, .string ⟨#[104]⟩, .string ⟨#[115, 117, 109]⟩] := (unhide HN5).ofb ((unhide HTT).2 W4.heap.size (by have := unhide HZ5; omega) (.inr (.inr rfl)))
      have hnk : wr.cell? ⟨W4.heap.size, k, none⟩ = some (.string nm) := by
        rw [← hnm]
        have h3 : k = 1 ∨ k = 2 ∨ k = 3 := by omega
        rcases h3 with rfl | rfl | rfl
        · exact hnb.1 1
        · exact hnb.1 2
        · exact hnb.1 3
      have hns : nm.size ≤ 3 := by
        rw [← hnm]
        have h3 : k = 1 ∨ k = 2 ∨ k = 3 := by omega
        rcases h3 with rfl | rfl | rfl <;> decide
      have HNS := hide hns
      have hk3 : k < 4 := by omega
      have hBr : B < wr.heap.size := by have := (unhide HRD).size; have := unhide HZZ; omega
      have HFC := hide (l22Fun_any B a len cap nm wr q (unhide HRD).rd hBr (by omega))
      clear hnb hnm hns
      go_wp2_with fail
      refine (unhide HFC).mono ?_
      rintro r w7 ⟨aa, ca, pb, args, ty, q7, rfl, hka, hal, han, ht1, ht2, hk7⟩
      obtain ⟨x, hx⟩ : ∃ x : TF, x = ⟨nm, pb, args, ty, zeroE⟩ := ⟨_, rfl⟩
      obtain ⟨W8, hW8⟩ : ∃ W8, W8 = w7.alloc (.cells #[.string nm, .bool pb, .slice aa args.length ca, .int .i64 ty, .int .i64 0, .int .i64 0, .string ⟨#[]⟩, .string ⟨#[]⟩, .slice none 0 0] 33) := ⟨_, rfl⟩
      obtain ⟨W9, hW9⟩ : ∃ W9, W9 = W8.alloc (.cells #[.string nm, .bool pb, .slice aa args.length ca, .int .i64 ty, .int .i64 0, .int .i64 0, .string ⟨#[]⟩, .string ⟨#[]⟩, .slice none 0 0] 33) := ⟨_, rfl⟩
      have hb8 : Below w7.heap.size w7 W8 := by rw [hW8]; exact below_one w7 _
      have hz8 : W8.heap.size = w7.heap.size + 1 := by rw [hW8]; simp
      have hb9 : Below W8.heap.size W8 W9 := by rw [hW9]; exact below_one W8 _
      have hz9 : W9.heap.size = w7.heap.size + 2 := by rw [hW9, alloc_size, hz8]
      have hFB9 : Blk W9 w7.heap.size [.string nm, .bool pb, .slice aa args.length ca, .int .i64 ty, .int .i64 0, .int .i64 0, .string ⟨#[]⟩, .string ⟨#[]⟩, .slice none 0 0] := by
        have h1 : Blk W8 w7.heap.size [.string nm, .bool pb, .slice aa args.length ca, .int .i64 ty, .int .i64 0, .int .i64 0, .string ⟨#[]⟩, .string ⟨#[]⟩, .slice none 0 0] := by rw [hW8]; exact Blk.new w7 [.string nm, .bool pb, .slice aa args.length ca, .int .i64 ty, .int .i64 0, .int .i64 0, .string ⟨#[]⟩, .string ⟨#[]⟩, .slice none 0 0] 33
        exact h1.below hb9 (by omega)
      have hE9 : Blk W9 W8.heap.size [.string nm, .bool pb, .slice aa args.length ca, .int .i64 ty, .int .i64 0, .int .i64 0, .string ⟨#[]⟩, .string ⟨#[]⟩, .slice none 0 0] := by rw [hW9]; exact Blk.new W8 [.string nm, .bool pb, .slice aa args.length ca, .int .i64 ty, .int .i64 0, .int .i64 0, .string ⟨#[]⟩, .string ⟨#[]⟩, .slice none 0 0] 33
      have zz := unhide HZZ
      have hz7 := hk7.size
      have hXX := unhide HXX
      have hGL : ∀ g, (Value.slice fa fs.length fc).ownBlock = some g → W2.heap.size + 1 ≤ g ∧ g < wr.heap.size := (unhide HFF).row.lt
      have hOL : W2.heap.size + 1 ≤ og ∧ og < wr.heap.size := (unhide HOO).row.lt og rfl
      have h79 : Below w7.heap.size w7 W9 := hb8.trans (hb9.mono (by omega))
      have hmz : W2.heap.size < wr.heap.size := by omega
      have hF9 : OwnD (EltF 3) 9 33 (fun b => (w0.heap.size < b ∧ b ≠ W2.heap.size) ∧ some b ≠ some og) (W2.heap.size + 1) W9 (.slice fa fs.length fc) fs :=
        ((unhide HFF).staySub (hk7.mv.stay (fun b h => by have := h.1.1; omega)) (fun g hg => by have := hGL g hg; exact ⟨⟨by omega, by omega⟩, fun e => hXX.1 (hg.trans e)⟩)).staySub (StayD.below h79) (fun g hg => by have := hGL g hg; exact ⟨⟨by omega, by omega⟩, fun e => hXX.1 (hg.trans e)⟩)
      have hO9 : OwnD EltS 4 102 (fun b => (b ≠ B ∧ b ≠ w0.heap.size ∧ b ≠ W2.heap.size) ∧ some b ≠ (Value.slice fa fs.length fc).ownBlock) (W2.heap.size + 1) W9 (.slice (some ⟨og, 0, none⟩) os.length oc') os :=
        ((unhide HOO).staySub (hk7.mv.stay (fun b h => h.1.1)) (fun g hg => by have : og = g := Option.some.inj hg; exact ⟨⟨by omega, by omega, by omega⟩, fun e => hXX.1 (e.symm.trans (by rw [this]))⟩)).staySub (StayD.below h79) (fun g hg => by have : og = g := Option.some.inj hg; exact ⟨⟨by omega, by omega, by omega⟩, fun e => hXX.1 (e.symm.trans (by rw [this]))⟩)
      have hel : KpD (OffD (fun b => (w0.heap.size < b ∧ b ≠ W2.heap.size) ∧ some b ≠ some og) (Value.slice fa fs.length fc).ownBlock) W9 (fun W => EltF 3 W x [.string nm, .bool pb, .slice aa args.length ca, .int .i64 ty, .int .i64 0, .int .i64 0, .string ⟨#[]⟩, .string ⟨#[]⟩, .slice none 0 0]) := by
        refine KpD.imp (((hka.stay (StayD.below h79)).less (fun b _ h => ⟨⟨⟨by have h9 : wr.heap.size ≤ b := h; omega, by have h9 : wr.heap.size ≤ b := h; omega⟩, fun e => by have h9 : wr.heap.size ≤ b := h; have := Option.some.inj e; omega⟩, fun e => by have h9 : wr.heap.size ≤ b := h; have := hGL b e.symm; omega⟩))) (fun W hW => ?_)
        refine ⟨_, _, _, _, _, _, _, _, _, rfl, ?_⟩
        rw [hx]
        exact ⟨aa, ca, _, _, _, _, _, rfl, ⟨by have := unhide HNS; unfold maxLen; show nm.size ≤ _; omega, by unfold maxLen; show args.length ≤ _; omega⟩, hW, (keepE_leaf (S := fun _ => True) (h := 2) (w := W) (k := 0) (m := 0) (nm := ⟨#[]⟩) (md := ⟨#[]⟩) (Nat.zero_le _) (Nat.zero_le _)).now⟩
      obtain ⟨i0', hfi, hfz0, hfz1, hfz2⟩ := info_parts infoF
      obtain ⟨fg, fc', w10, r10, o10, y10, l10⟩ := hF9.moreL (by omega) 24 i0' _ 128 Tryz.underlying24 hfi hfz0 hfz1 hfz2 rfl (by omega) (by omega) ⟨W8.heap.size, 0, none⟩ 1 [(x, [.string nm, .bool pb, .slice aa args.length ca, .int .i64 ty, .int .i64 0, .int .i64 0, .string ⟨#[]⟩, .string ⟨#[]⟩, .slice none 0 0])] (by simp) (by
        intro q hq
        rw [List.mem_singleton] at hq
        subst hq
        refine ⟨rfl, fun u hu => ?_⟩
        simp only [List.mem_cons, List.not_mem_nil, or_false] at hu
        rcases hu with rfl | rfl | rfl | rfl | rfl | rfl | rfl | rfl | rfl <;> rfl) (fun j u hu => by
        rw [Addr.add_lit, Nat.zero_add]
        exact (hE9.1 j).trans (by simpa using hu)) (by simp; omega) (by
        intro q hq
        rw [List.mem_singleton] at hq
        subst hq
        exact hel)
      have hMB7 : Blk w7 W2.heap.size [.slice (some ⟨gu, 0, none⟩) uses.length cu, .slice fa fs.length fc, .slice none 0 0] := (unhide HMB).ofb (hk7.mv.2 W2.heap.size hmz (by omega))
      have hMB10 : Blk w10 W2.heap.size [.slice (some ⟨gu, 0, none⟩) uses.length cu, .slice fa fs.length fc, .slice none 0 0] := (hMB7.below h79 (by omega)).ofb (y10.block W2.heap.size (by omega) (fun e => by have := hGL W2.heap.size e.symm; omega))
      have hFB10 : Blk w10 w7.heap.size [.string nm, .bool pb, .slice aa args.length ca, .int .i64 ty, .int .i64 0, .int .i64 0, .string ⟨#[]⟩, .string ⟨#[]⟩, .slice none 0 0] := hFB9.ofb (y10.block _ (by omega) (fun e => by have := hGL _ e.symm; omega))
      have hfg : W2.heap.size + 1 ≤ fg ∧ fg < w10.heap.size := o10.row.lt fg rfl
      have hO10 := hO9.beside y10 (l10.imp id (fun e => Nat.le_of_eq e.symm)) (fun g hg => by have : og = g := Option.some.inj hg; exact ⟨⟨by omega, by omega, by omega⟩, fun e => hXX.1 (e.symm.trans (by rw [this]))⟩)
      have hz10 := y10.size
      have hrd9 : RdM B a len cap (1 + 12 * fs.length + 10) w0 W9 p q7 := ((unhide HRD).trans hk7).below (by omega) h79
      have hrd10 : RdM B a len cap (1 + 12 * fs.length + 10) w0 w10 p q7 := hrd9.grown (by omega) y10 (fun k hk => by have := hGL k hk; omega)
      have hrd11 := hrd10.set (by omega) W2.heap.size 1 (.slice (some ⟨fg, 0, none⟩) (fs.length + 1) fc') (by omega)
      have hset : ∀ S : Nat → Prop, ¬ S W2.heap.size → StayD S w10 (w10.setCell ⟨W2.heap.size, 1, none⟩ (.slice (some ⟨fg, 0, none⟩) (fs.length + 1) fc')) := fun S h => (StayD.refl S w10).set W2.heap.size 1 _ (fun _ => h)
      have o11 := o10.staySub (hset _ (fun h => h.1.2 rfl)) (fun g hg => by have : fg = g := Option.some.inj hg; exact ⟨⟨by omega, by omega⟩, fun e => by have e' : g = og := Option.some.inj e; rcases l10 with l | l; exact hXX.1 (l.trans (by rw [this, e'])); omega⟩)
      have hO11 := hO10.staySub (hset _ (fun h => h.1.2.2 rfl)) (fun g hg => by have : og = g := Option.some.inj hg; exact ⟨⟨by omega, by omega, by omega⟩, fun e => by have e' : g = fg := Option.some.inj e; rcases l10 with l | l; exact hXX.1 (l.trans (by rw [this, ← e'])); omega⟩)
      have hMB11 := hMB10.set 1 (.slice (some ⟨fg, 0, none⟩) (fs.length + 1) fc') (by simp)
      have hFB11 := hFB10.other W2.heap.size 1 (.slice (some ⟨fg, 0, none⟩) (fs.length + 1) fc') (by omega)
      have hTT11 : StayD (fun b => b = gu ∨ b = w0.heap.size ∨ b = W4.heap.size) W5 (w10.setCell ⟨W2.heap.size, 1, none⟩ (.slice (some ⟨fg, 0, none⟩) (fs.length + 1) fc')) := by
        have hgu := unhide HGU
        refine ((unhide HTT).trans ((hk7.mv.stay (fun b h => by rcases h with h | h | h <;> omega)).trans ((StayD.below h79).trans ((StayD.refl _ W9).grown y10 (fun b hb h e => ?_))))).trans (hset _ (fun h => by rcases h with h | h | h <;> omega))
        have h1 := hGL b e.symm
        rcases h with h | h | h
        · omega
        · omega
        · exact hXX.2.1 (by rw [← e, h])
      have hNBx : fg ≠ W4.heap.size ∧ og ≠ fg := by
        have h1 := hXX.2.1
        have h2 := hXX.2.2.2
        refine ⟨fun e => ?_, fun e => ?_⟩
        · rcases l10 with l | l
          · exact h1 (l.trans (by rw [e]))
          · omega
        · rcases l10 with l | l
          · exact hXX.1 (l.trans (by rw [e]))
          · omega
      obtain ⟨W11, hW11⟩ : ∃ W11, W11 = w10.setCell ⟨W2.heap.size, 1, none⟩ (.slice (some ⟨fg, 0, none⟩) (fs.length + 1) fc') := ⟨_, rfl⟩
      have hz11 : W11.heap.size = w10.heap.size := by rw [hW11]; simp [World.setCell]
      have HW11 := hide hW11
      rw [← hW11] at hrd11 o11 hO11 hMB11 hFB11 hTT11
      have HPK2 := hide (pick_rd B a len cap q7 4 W11 hrd11.rd (by have := hrd10.le; omega) (by omega))
      have HRD11 := hide hrd11
      have HO11 := hide o11
      have HOO11 := hide hO11
      have HMB11 := hide hMB11
      have HFB11 := hide hFB11
      have HTT11 := hide hTT11
      have HZ11 : Hid (w7.heap.size + 2 ≤ W11.heap.size ∧ wr.heap.size ≤ w7.heap.size ∧ fg < W11.heap.size ∧ W2.heap.size + 1 ≤ fg ∧ fg ≠ W4.heap.size ∧ og ≠ fg ∧ og ≠ W4.heap.size ∧ W4.heap.size < wr.heap.size ∧ W2.heap.size + 1 ≤ og ∧ og < wr.heap.size) := hide ⟨by omega, by omega, by omega, by omega, hNBx.1, hNBx.2, hXX.2.2.1, hXX.2.2.2, hOL.1, hOL.2⟩
      have HFX : Hid (FOk x ∧ x.body.wt ≤ 10 ∧ x.args = args ∧ nm.size ≤ 3) := hide (by
        rw [hx]
        have h3 := unhide HNS
        exact ⟨⟨show nm.size ≤ 8 by omega, hal, fun y hy => (han y hy).1⟩, show zeroE.wt ≤ 10 by decide, rfl, h3⟩)
      have HAR := hide (((hka.stay (StayD.below h79)).stay ((StayD.refl _ W9).grown y10 (fun b hb h e => by have h9 : wr.heap.size ≤ b := h; have := hGL b e.symm; omega))).stay (hset _ (fun h => by have h9 : wr.heap.size ≤ W2.heap.size := h; omega)))
      have HAL := hide hal
      have e1 : w7.cell? ⟨W2.heap.size, 1, none⟩ = some (.slice fa fs.length fc) := hMB7.1 1
      have e2 : ∀ o, (w7.alloc o).cell? ⟨W2.heap.size, 1, none⟩ = some (.slice fa fs.length fc) := fun o => ((below_one w7 o).cell (p := ⟨W2.heap.size, 1, none⟩) (by (try dsimp only); omega)).trans e1
      have e3 := hMB10.cellAt (i := 1) rfl
      have e4 := hMB10.2 1
      rw [hz8] at r10
      rw [hW9, hW8] at r10
      simp only [List.length_singleton] at r10
      clear hW8 hW9 hW11 hb8 hz8 hb9 hz9 hFB9 hE9 zz hz7 hXX hGL hOL h79 hmz hF9 hO9 hel hfi hfz0 hfz1 hfz2 y10 l10 o10 hMB7 hMB10 hFB10 hfg hO10 hz10 hrd9 hrd10 hrd11 hset o11 hO11 hMB11 hFB11 hTT11 hNBx hz11 hka hal han ht1 ht2 hk7
      go_wp2_with (at_builtin; refine wpList_runD rfl (.tmp 37) (.tmp 39) 24 rfl rfl (.slice fa fs.length fc) (.slice (some ⟨w7.heap.size + 1, 0, none⟩) 1 1) rfl rfl (.slice (some ⟨fg, 0, none⟩) (fs.length + 1) fc') w10 r10 ?_)
      rw [← unhide HW11]
      refine (unhide HPK2).mono ?_
      rintro r w12 ⟨j, rfl, j1, j2, hk12, -⟩
      have HR12 := hide (((unhide HRD11).trans hk12).more (show 1 + 12 * fs.length + 10 + 1 ≤ 1 + 12 * (fs.length + 1) by omega))
      have zx := unhide HZ11
      have zz := unhide HZZ
      have HF12 := hide ((unhide HO11).staySub (hk12.mv.stay (fun b h => by have := h.1.1; omega)) (fun g hg => by have : fg = g := Option.some.inj hg; exact ⟨⟨by omega, by omega⟩, fun e => by have e' : g = og := Option.some.inj e; omega⟩))
      have HO12 := hide ((unhide HOO11).staySub (hk12.mv.stay (fun b h => h.1.1)) (fun g hg => by have : og = g := Option.some.inj hg; exact ⟨⟨by omega, by omega, by omega⟩, fun e => by have e' : g = fg := Option.some.inj e; omega⟩))
      have HMB12 := hide ((unhide HMB11).ofb (hk12.mv.2 W2.heap.size (by omega) (by omega)))
      have HFB12 := hide ((unhide HFB11).ofb (hk12.mv.2 w7.heap.size (by omega) (by omega)))
      have HT12 := hide ((unhide HTT11).trans (hk12.mv.stay (fun b h => by have := unhide HGU; rcases h with h | h | h <;> omega)))
      have HA12 := hide ((unhide HAR).stay (show StayD (fun b => wr.heap.size ≤ b) _ _ from by rw [← unhide HW11]; exact hk12.mv.stay (fun b h => by have h9 : wr.heap.size ≤ b := h; omega)))
      have HZ12 : Hid (w7.heap.size + 2 ≤ w12.heap.size ∧ wr.heap.size ≤ w7.heap.size ∧ fg < w12.heap.size ∧ W2.heap.size + 1 ≤ fg ∧ fg ≠ W4.heap.size ∧ og ≠ fg ∧ og ≠ W4.heap.size ∧ W4.heap.size < w12.heap.size ∧ W2.heap.size + 1 ≤ og ∧ og < w12.heap.size) := hide (by have := hk12.size; omega)
      clear j2 hk12 r10 e1 e2 e3 e4 zx zz HRD11 HO11 HOO11 HMB11 HFB11 HTT11 HAR HZ11
      by_cases hj : 0 < j
      · have hfp := unhide HFX
        obtain ⟨zs, hzs⟩ : ∃ zs, args.map TA.type = zs := ⟨_, rfl⟩
        have hzl : zs.length ≤ 2 := by rw [← hzs, List.length_map]; exact unhide HAL
        have HL3 := hide (fun (W : World) (hb : Below w12.heap.size w12 W) => show Calls Tryz.prog 21 #[.agg #[.string nm, .bool pb, .slice aa args.length ca, .int .i64 ty, .int .i64 0, .int .i64 0, .string ⟨#[]⟩, .string ⟨#[]⟩, .slice none 0 0]] W fun r w' => ∃ v5, r = .returned (.agg #[.string nm, v5, .int .i64 ty]) ∧ OwnI w' W.heap.size w'.heap.size v5 zs ∧ Below W.heap.size W w' from by
          have hF : IsFun W 0 W.heap.size 3 (.agg #[.string nm, .bool pb, .slice aa args.length ca, .int .i64 ty, .int .i64 0, .int .i64 0, .string ⟨#[]⟩, .string ⟨#[]⟩, .slice none 0 0]) ⟨nm, pb, args, ty, zeroE⟩ := ⟨aa, ca, _, _, _, _, _, rfl, ⟨by unfold maxLen; show nm.size ≤ _; omega, by unfold maxLen; have := unhide HAL; show args.length ≤ _; omega⟩, ((unhide HA12).stay (StayD.below hb)).now, (keepE_leaf (S := fun _ => True) (h := 2) (w := W) (k := 0) (m := 0) (nm := ⟨#[]⟩) (md := ⟨#[]⟩) (Nat.zero_le _) (Nat.zero_le _)).now⟩
          have := l3Of_any _ 3 _ _ W hF (by have := unhide HAL; show args.length ≤ _; omega)
          unfold OwnSig at this
          rw [show (sigOf ⟨nm, pb, args, ty, zeroE⟩).args = zs from hzs] at this
          exact this)
        have HZL := hide hzl
        have HNM : Hid (nm.size ≤ 3) := hide hfp.2.2.2
        obtain ⟨FB, hFB⟩ : ∃ FB, w7.heap.size = FB := ⟨_, rfl⟩
        rw [hFB] at HFB12 HZ12
        have HFF2 := hide hFB
        have HFL : Hid (FB < w12.heap.size) := hide (by have := unhide HZ12; omega)
        have HLN : Hid (os.length ≤ 102) := hide (by have := (unhide HOP).2; omega)
        clear hfp hzs hzl
        go_wp2
        clear hFB
        refine wp_region_inv (by kernel_rfl) (fun k => (decide (45 ≤ k) && decide (k ≤ 55)) || decide (k = 8)) (fun L us w => (L 10 = false → Below w12.heap.size w12 w ∧ us 8 = .slice (some ⟨og, 0, none⟩) os.length oc' ∧ Cl (ModA w12.heap.size 0 FB (.slice (some ⟨og, 0, none⟩) os.length oc') nm ty zs (.agg #[.string nm, .bool pb, .slice aa args.length ca, .int .i64 ty, .int .i64 0, .int .i64 0, .string ⟨#[]⟩, .string ⟨#[]⟩, .slice none 0 0])) (fun j => 45 + j) L us w) ∧
          (L 10 = true → ∃ (g5 c5 : Nat) (aa : Option Addr) (ca : Nat), us 55 = .slice (some ⟨g5, 0, none⟩) (os.length + 1) c5 ∧ (L 11 = true → us 8 = .slice (some ⟨g5, 0, none⟩) (os.length + 1) c5) ∧ OwnD EltS 4 102 (fun b => (b ≠ B ∧ b ≠ w0.heap.size ∧ b ≠ W2.heap.size) ∧ some b ≠ (Value.slice (some ⟨fg, 0, none⟩) (fs.length + 1) fc').ownBlock) (W2.heap.size + 1) w (.slice (some ⟨g5, 0, none⟩) (os.length + 1) c5) (os ++ [(⟨⟨#[]⟩, nm, zs, ty⟩, [.string ⟨#[]⟩, .string nm, .slice aa zs.length ca, .int .i64 ty])]) ∧ (∀ b, b < w12.heap.size → some b ≠ some og → w.heap[b]? = w12.heap[b]?) ∧ (g5 = og ∨ w12.heap.size ≤ g5) ∧ Below 0 w12 w)) (by kernel_rfl) ?_ ?_ ?_
        · refine ⟨fun _ => ⟨(Below.refl _ w12).drew, rfl, fun j hj => ?_⟩, (fun h => by simp at h)⟩
          have hj2 : 12 ≤ j := of_decide_eq_true hj
          obtain ⟨m', rfl⟩ : ∃ m', j = m' + 10 := ⟨j - 10, by omega⟩
          trivial
        · refine ⟨?_, ?_, ?_, ?_, ?_, ?_, ?_, ?_, ?_, ?_, ?_, ?_, trivial⟩
          -- operation 0
          · rintro L us w ⟨hA, -⟩ hl hdep hbh hup K hK
            have hlast : L 10 = false := hbh 10 (by kernel_rfl)
            have hnl : updL L 0 10 = false := (updL_other _ _ _ (by decide)).trans hlast
            obtain ⟨hst, d99, hcl⟩ := hA hlast
            have HK9 := hide d99
            have HST := hide hst
            have HCL := hide hcl
            clear hst hcl hA hdep hbh hup hl hlast
            simp only [frmFrom, Nat.reduceAdd, Nat.reduceLeDiff, Nat.reduceEqDiff, decide_true, decide_false, Bool.and_true, Bool.and_false, Bool.or_true, Bool.or_false, Bool.false_eq_true, if_true, if_false]
            go_simp
            refine hK _ _ ⟨updU us 45 (.slice (some ⟨og, 0, none⟩) os.length oc'), by simp [frmFrom, updU, d99], fun _ => ?_, (fun h => by rw [hnl] at h; cases h)⟩
            have hb2 : Below w.heap.size w (w) := Below.refl _ _
            have hs2 : StayD (fun _ => True) w (w) := StayD.below hb2
            exact ⟨(unhide HST).trans (hb2.mono (unhide HST).size), (updU_other _ _ _ _ (by decide)).trans (unhide HK9), (unhide HCL).put (fun j v h => ModA.stay hs2 (fun _ _ => trivial) j v h) (rfl) (fun j hj => by omega)⟩
          -- operation 1
          · rintro L us w ⟨hA, -⟩ hl hdep hbh hup K hK
            have hlast : L 10 = false := hbh 10 (by kernel_rfl)
            have hnl : updL L 1 10 = false := (updL_other _ _ _ (by decide)).trans hlast
            obtain ⟨hst, d99, hcl⟩ := hA hlast
            have HK9 := hide d99
            have HST := hide hst
            have HCL := hide hcl
            clear hst hcl hA hdep hbh hup hl hlast
            simp only [frmFrom, Nat.reduceAdd, Nat.reduceLeDiff, Nat.reduceEqDiff, decide_true, decide_false, Bool.and_true, Bool.and_false, Bool.or_true, Bool.or_false, Bool.false_eq_true, if_true, if_false]
            clear d99
            go_simp
            refine hK _ _ ⟨updU us 46 (.pointer (some ⟨FB, 0, none⟩)), by simp [frmFrom, updU], fun _ => ?_, (fun h => by rw [hnl] at h; cases h)⟩
            have hb2 : Below w.heap.size w (w) := Below.refl _ _
            have hs2 : StayD (fun _ => True) w (w) := StayD.below hb2
            exact ⟨(unhide HST).trans (hb2.mono (unhide HST).size), (updU_other _ _ _ _ (by decide)).trans (unhide HK9), (unhide HCL).put (fun j v h => ModA.stay hs2 (fun _ _ => trivial) j v h) (rfl) (fun j hj => by omega)⟩
          -- operation 2
          · rintro L us w ⟨hA, -⟩ hl hdep hbh hup K hK
            have hlast : L 10 = false := hbh 10 (by kernel_rfl)
            have hnl : updL L 2 10 = false := (updL_other _ _ _ (by decide)).trans hlast
            obtain ⟨hst, d99, hcl⟩ := hA hlast
            have HK9 := hide d99
            have d1 : us 46 = _ := hcl 1 (hup 1 (by decide) (by kernel_rfl))
            have q0 : w.cell? ⟨FB, 0, none⟩ = some (.string nm) := (World.cell?_of_block (w := w12) (a := ⟨FB, 0, none⟩) (hst.block FB (unhide HFL))).trans ((unhide HFB12).1 0)
            have HST := hide hst
            have HCL := hide hcl
            clear hst hcl hA hdep hbh hup hl hlast
            simp only [frmFrom, Nat.reduceAdd, Nat.reduceLeDiff, Nat.reduceEqDiff, decide_true, decide_false, Bool.and_true, Bool.and_false, Bool.or_true, Bool.or_false, Bool.false_eq_true, if_true, if_false]
            clear d99
            go_simp
            refine hK _ _ ⟨updU us 47 (.string nm), by simp [frmFrom, updU, d1], fun _ => ?_, (fun h => by rw [hnl] at h; cases h)⟩
            have hb2 : Below w.heap.size w (w) := Below.refl _ _
            have hs2 : StayD (fun _ => True) w (w) := StayD.below hb2
            exact ⟨(unhide HST).trans (hb2.mono (unhide HST).size), (updU_other _ _ _ _ (by decide)).trans (unhide HK9), (unhide HCL).put (fun j v h => ModA.stay hs2 (fun _ _ => trivial) j v h) (rfl) (fun j hj => by omega)⟩
          -- operation 3
          · rintro L us w ⟨hA, -⟩ hl hdep hbh hup K hK
            have hlast : L 10 = false := hbh 10 (by kernel_rfl)
            have hnl : updL L 3 10 = false := (updL_other _ _ _ (by decide)).trans hlast
            obtain ⟨hst, d99, hcl⟩ := hA hlast
            have HK9 := hide d99
            have q0 : w.cell? ⟨FB, 0, none⟩ = some (.string nm) := (World.cell?_of_block (w := w12) (a := ⟨FB, 0, none⟩) (hst.block FB (unhide HFL))).trans ((unhide HFB12).1 0)
            have q1 : w.cell? ⟨FB, 1, none⟩ = some (.bool pb) := (World.cell?_of_block (w := w12) (a := ⟨FB, 1, none⟩) (hst.block FB (unhide HFL))).trans ((unhide HFB12).1 1)
            have q2 : w.cell? ⟨FB, 2, none⟩ = some (.slice aa args.length ca) := (World.cell?_of_block (w := w12) (a := ⟨FB, 2, none⟩) (hst.block FB (unhide HFL))).trans ((unhide HFB12).1 2)
            have q3 : w.cell? ⟨FB, 3, none⟩ = some (.int .i64 ty) := (World.cell?_of_block (w := w12) (a := ⟨FB, 3, none⟩) (hst.block FB (unhide HFL))).trans ((unhide HFB12).1 3)
            have q4 : w.cell? ⟨FB, 4, none⟩ = some (.int .i64 0) := (World.cell?_of_block (w := w12) (a := ⟨FB, 4, none⟩) (hst.block FB (unhide HFL))).trans ((unhide HFB12).1 4)
            have q5 : w.cell? ⟨FB, 5, none⟩ = some (.int .i64 0) := (World.cell?_of_block (w := w12) (a := ⟨FB, 5, none⟩) (hst.block FB (unhide HFL))).trans ((unhide HFB12).1 5)
            have q6 : w.cell? ⟨FB, 6, none⟩ = some (.string ⟨#[]⟩) := (World.cell?_of_block (w := w12) (a := ⟨FB, 6, none⟩) (hst.block FB (unhide HFL))).trans ((unhide HFB12).1 6)
            have q7 : w.cell? ⟨FB, 7, none⟩ = some (.string ⟨#[]⟩) := (World.cell?_of_block (w := w12) (a := ⟨FB, 7, none⟩) (hst.block FB (unhide HFL))).trans ((unhide HFB12).1 7)
            have q8 : w.cell? ⟨FB, 8, none⟩ = some (.slice none 0 0) := (World.cell?_of_block (w := w12) (a := ⟨FB, 8, none⟩) (hst.block FB (unhide HFL))).trans ((unhide HFB12).1 8)
            have HST := hide hst
            have HCL := hide hcl
            clear hst hcl hA hdep hbh hup hl hlast
            simp only [frmFrom, Nat.reduceAdd, Nat.reduceLeDiff, Nat.reduceEqDiff, decide_true, decide_false, Bool.and_true, Bool.and_false, Bool.or_true, Bool.or_false, Bool.false_eq_true, if_true, if_false]
            clear d99
            go_simp
            refine hK _ _ ⟨updU us 48 (.agg #[.string nm, .bool pb, .slice aa args.length ca, .int .i64 ty, .int .i64 0, .int .i64 0, .string ⟨#[]⟩, .string ⟨#[]⟩, .slice none 0 0]), by simp [frmFrom, updU], fun _ => ?_, (fun h => by rw [hnl] at h; cases h)⟩
            have hb2 : Below w.heap.size w (w) := Below.refl _ _
            have hs2 : StayD (fun _ => True) w (w) := StayD.below hb2
            exact ⟨(unhide HST).trans (hb2.mono (unhide HST).size), (updU_other _ _ _ _ (by decide)).trans (unhide HK9), (unhide HCL).put (fun j v h => ModA.stay hs2 (fun _ _ => trivial) j v h) (rfl) (fun j hj => by omega)⟩
          -- operation 4
          · rintro L us w ⟨hA, -⟩ hl hdep hbh hup K hK
            have hlast : L 10 = false := hbh 10 (by kernel_rfl)
            have hnl : updL L 4 10 = false := (updL_other _ _ _ (by decide)).trans hlast
            obtain ⟨hst, d99, hcl⟩ := hA hlast
            have HK9 := hide d99
            have d3 : us 48 = _ := hcl 3 (hup 3 (by decide) (by kernel_rfl))
            have HST := hide hst
            have HCL := hide hcl
            clear hst hcl hA hdep hbh hup hl hlast
            simp only [frmFrom, Nat.reduceAdd, Nat.reduceLeDiff, Nat.reduceEqDiff, decide_true, decide_false, Bool.and_true, Bool.and_false, Bool.or_true, Bool.or_false, Bool.false_eq_true, if_true, if_false]
            clear d99
            go_simp
            refine (unhide HL3 w (unhide HST)).mono ?_
            rintro r w5 ⟨v5, rfl, hi5, hb5⟩
            obtain ⟨aa5, ca5, rfl, hi6⟩ := hi5.ints
            have hkp : KpD (fun b => w12.heap.size ≤ b ∧ b ≠ 0) w5 (fun W => IsInts W 0 W.heap.size aa5 zs) := fun W hW => hi6.same (fun b h1 h2 => hW.2 b h2 ⟨Nat.le_trans (unhide HST).size h1, by have := unhide HFL; have := (unhide HST).size; omega⟩) (Nat.zero_le _) hW.1
            have HKP := hide hkp
            clear hi5 hi6 hkp
            go_simp
            refine hK _ _ ⟨updU us 49 (.agg #[.string nm, .slice aa5 zs.length ca5, .int .i64 ty]), by simp [frmFrom, updU, d3], fun _ => ?_, (fun h => by rw [hnl] at h; cases h)⟩
            have hb2 : Below w.heap.size w (w5) := hb5
            have hs2 : StayD (fun _ => True) w (w5) := StayD.below hb2
            exact ⟨(unhide HST).trans (hb2.mono (unhide HST).size), (updU_other _ _ _ _ (by decide)).trans (unhide HK9), (unhide HCL).put (fun j v h => ModA.stay hs2 (fun _ _ => trivial) j v h) (⟨aa5, ca5, rfl, unhide HKP⟩) (fun j hj => by omega)⟩
          -- operation 5
          · rintro L us w ⟨hA, -⟩ hl hdep hbh hup K hK
            have hlast : L 10 = false := hbh 10 (by kernel_rfl)
            have hnl : updL L 5 10 = false := (updL_other _ _ _ (by decide)).trans hlast
            obtain ⟨hst, d99, hcl⟩ := hA hlast
            have HK9 := hide d99
            obtain ⟨aa5, ca5, d4, hk4⟩ := hcl 4 (hup 4 (by decide) (by kernel_rfl))
            have d4 : us 49 = _ := d4
            have HST := hide hst
            have HCL := hide hcl
            clear hst hcl hA hdep hbh hup hl hlast
            simp only [frmFrom, Nat.reduceAdd, Nat.reduceLeDiff, Nat.reduceEqDiff, decide_true, decide_false, Bool.and_true, Bool.and_false, Bool.or_true, Bool.or_false, Bool.false_eq_true, if_true, if_false]
            clear d99
            go_simp
            refine hK _ _ ⟨updU us 50 (.slice aa5 zs.length ca5), by simp [frmFrom, updU, d4, Act.put], fun _ => ?_, (fun h => by rw [hnl] at h; cases h)⟩
            have hb2 : Below w.heap.size w (w) := Below.refl _ _
            have hs2 : StayD (fun _ => True) w (w) := StayD.below hb2
            exact ⟨(unhide HST).trans (hb2.mono (unhide HST).size), (updU_other _ _ _ _ (by decide)).trans (unhide HK9), (unhide HCL).put (fun j v h => ModA.stay hs2 (fun _ _ => trivial) j v h) (⟨aa5, ca5, rfl, hk4⟩) (fun j hj => by omega)⟩
          -- operation 6
          · rintro L us w ⟨hA, -⟩ hl hdep hbh hup K hK
            have hlast : L 10 = false := hbh 10 (by kernel_rfl)
            have hnl : updL L 6 10 = false := (updL_other _ _ _ (by decide)).trans hlast
            obtain ⟨hst, d99, hcl⟩ := hA hlast
            have HK9 := hide d99
            have HST := hide hst
            have HCL := hide hcl
            clear hst hcl hA hdep hbh hup hl hlast
            simp only [frmFrom, Nat.reduceAdd, Nat.reduceLeDiff, Nat.reduceEqDiff, decide_true, decide_false, Bool.and_true, Bool.and_false, Bool.or_true, Bool.or_false, Bool.false_eq_true, if_true, if_false]
            clear d99
            go_simp
            refine hK _ _ ⟨updU us 51 (.pointer (some ⟨FB, 3, none⟩)), by simp [frmFrom, updU], fun _ => ?_, (fun h => by rw [hnl] at h; cases h)⟩
            have hb2 : Below w.heap.size w (w) := Below.refl _ _
            have hs2 : StayD (fun _ => True) w (w) := StayD.below hb2
            exact ⟨(unhide HST).trans (hb2.mono (unhide HST).size), (updU_other _ _ _ _ (by decide)).trans (unhide HK9), (unhide HCL).put (fun j v h => ModA.stay hs2 (fun _ _ => trivial) j v h) (rfl) (fun j hj => by omega)⟩
          -- operation 7
          · rintro L us w ⟨hA, -⟩ hl hdep hbh hup K hK
            have hlast : L 10 = false := hbh 10 (by kernel_rfl)
            have hnl : updL L 7 10 = false := (updL_other _ _ _ (by decide)).trans hlast
            obtain ⟨hst, d99, hcl⟩ := hA hlast
            have HK9 := hide d99
            have d6 : us 51 = _ := hcl 6 (hup 6 (by decide) (by kernel_rfl))
            have q3 : w.cell? ⟨FB, 3, none⟩ = some (.int .i64 ty) := (World.cell?_of_block (w := w12) (a := ⟨FB, 3, none⟩) (hst.block FB (unhide HFL))).trans ((unhide HFB12).1 3)
            have HST := hide hst
            have HCL := hide hcl
            clear hst hcl hA hdep hbh hup hl hlast
            simp only [frmFrom, Nat.reduceAdd, Nat.reduceLeDiff, Nat.reduceEqDiff, decide_true, decide_false, Bool.and_true, Bool.and_false, Bool.or_true, Bool.or_false, Bool.false_eq_true, if_true, if_false]
            clear d99
            go_simp
            refine hK _ _ ⟨updU us 52 (.int .i64 ty), by simp [frmFrom, updU, d6], fun _ => ?_, (fun h => by rw [hnl] at h; cases h)⟩
            have hb2 : Below w.heap.size w (w) := Below.refl _ _
            have hs2 : StayD (fun _ => True) w (w) := StayD.below hb2
            exact ⟨(unhide HST).trans (hb2.mono (unhide HST).size), (updU_other _ _ _ _ (by decide)).trans (unhide HK9), (unhide HCL).put (fun j v h => ModA.stay hs2 (fun _ _ => trivial) j v h) (rfl) (fun j hj => by omega)⟩
          -- operation 8
          · rintro L us w ⟨hA, -⟩ hl hdep hbh hup K hK
            have hlast : L 10 = false := hbh 10 (by kernel_rfl)
            have hnl : updL L 8 10 = false := (updL_other _ _ _ (by decide)).trans hlast
            obtain ⟨hst, d99, hcl⟩ := hA hlast
            have HK9 := hide d99
            have d2 : us 47 = _ := hcl 2 (hup 2 (by decide) (by kernel_rfl))
            obtain ⟨aa5, ca5, d5, hk5⟩ := hcl 5 (hup 5 (by decide) (by kernel_rfl))
            have d5 : us 50 = _ := d5
            have d7 : us 52 = _ := hcl 7 (hup 7 (by decide) (by kernel_rfl))
            have HST := hide hst
            have HCL := hide hcl
            clear hst hcl hA hdep hbh hup hl hlast
            simp only [frmFrom, Nat.reduceAdd, Nat.reduceLeDiff, Nat.reduceEqDiff, decide_true, decide_false, Bool.and_true, Bool.and_false, Bool.or_true, Bool.or_false, Bool.false_eq_true, if_true, if_false]
            clear d99
            go_simp
            refine hK _ _ ⟨updU us 53 (.agg #[.string ⟨#[]⟩, .string nm, .slice aa5 zs.length ca5, .int .i64 ty]), by simp [frmFrom, updU, d2, d5, d7], fun _ => ?_, (fun h => by rw [hnl] at h; cases h)⟩
            have hb2 : Below w.heap.size w (w) := Below.refl _ _
            have hs2 : StayD (fun _ => True) w (w) := StayD.below hb2
            exact ⟨(unhide HST).trans (hb2.mono (unhide HST).size), (updU_other _ _ _ _ (by decide)).trans (unhide HK9), (unhide HCL).put (fun j v h => ModA.stay hs2 (fun _ _ => trivial) j v h) (⟨aa5, ca5, rfl, hk5⟩) (fun j hj => by omega)⟩
          -- operation 9
          · rintro L us w ⟨hA, -⟩ hl hdep hbh hup K hK
            have hlast : L 10 = false := hbh 10 (by kernel_rfl)
            have hnl : updL L 9 10 = false := (updL_other _ _ _ (by decide)).trans hlast
            obtain ⟨hst, d99, hcl⟩ := hA hlast
            have HK9 := hide d99
            obtain ⟨aa5, ca5, d8, hk8⟩ := hcl 8 (hup 8 (by decide) (by kernel_rfl))
            have d8 : us 53 = _ := d8
            have HST := hide hst
            have HCL := hide hcl
            clear hst hcl hA hdep hbh hup hl hlast
            simp only [frmFrom, Nat.reduceAdd, Nat.reduceLeDiff, Nat.reduceEqDiff, decide_true, decide_false, Bool.and_true, Bool.and_false, Bool.or_true, Bool.or_false, Bool.false_eq_true, if_true, if_false]
            clear d99
            go_simp
            refine hK _ _ ⟨updU us 54 (.slice (some ⟨w.heap.size, 0, none⟩) 1 1), by simp [frmFrom, updU, d8], fun _ => ?_, (fun h => by rw [hnl] at h; cases h)⟩
            have hb2 : Below w.heap.size w (w.alloc (.cells #[.string ⟨#[]⟩, .string nm, .slice aa5 zs.length ca5, .int .i64 ty] 102)) := below_one w _
            have hs2 : StayD (fun _ => True) w (w.alloc (.cells #[.string ⟨#[]⟩, .string nm, .slice aa5 zs.length ca5, .int .i64 ty] 102)) := StayD.below hb2
            exact ⟨(unhide HST).trans (hb2.mono (unhide HST).size), (updU_other _ _ _ _ (by decide)).trans (unhide HK9), (unhide HCL).put (fun j v h => ModA.stay hs2 (fun _ _ => trivial) j v h) (⟨w.heap.size, aa5, ca5, rfl, (unhide HST).size, by simp, Blk.new w [.string ⟨#[]⟩, .string nm, .slice aa5 zs.length ca5, .int .i64 ty] _, hk8.stay (hs2.less (fun _ _ _ => trivial))⟩) (fun j hj => by omega)⟩
          -- operation 10
          · rintro L us w ⟨hA, -⟩ hl hdep hbh hup K hK
            have h11 : L 11 = false := hbh 11 (by kernel_rfl)
            obtain ⟨hst, -, hcl⟩ := hA hl
            have d0 : us 45 = _ := hcl 0 (hup 0 (by decide) (by kernel_rfl))
            obtain ⟨h, aa5, ca5, d9, hh1, hh2, hh3, hh4⟩ := hcl 9 (hup 9 (by decide) (by kernel_rfl))
            have d9 : us 54 = _ := d9
            have zx := unhide HZ12
            have zz := unhide HZZ
            have hsz := hst.size
            have hO5 := (unhide HO12).staySub (StayD.below hst) (fun g hg => by have : og = g := Option.some.inj hg; exact ⟨⟨by omega, by omega, by omega⟩, fun e => by have e' : g = fg := Option.some.inj e; omega⟩)
            obtain ⟨i0', hi, hz0, hz1, hz2⟩ := info_parts infoSigL
            obtain ⟨g5, c5, w6, r6, o6, y6, l6⟩ := hO5.moreL (by omega) 84 i0' _ 64 Tryz.underlying84 hi hz0 hz1 hz2 rfl (by omega) (by omega) ⟨h, 0, none⟩ 1 [(⟨⟨#[]⟩, nm, zs, ty⟩, [.string ⟨#[]⟩, .string nm, .slice aa5 zs.length ca5, .int .i64 ty])] (by simp) (by
              intro q hq
              rw [List.mem_singleton] at hq
              subst hq
              refine ⟨rfl, fun u hu => ?_⟩
              simp only [List.mem_cons, List.not_mem_nil, or_false] at hu
              rcases hu with rfl | rfl | rfl | rfl <;> rfl) (fun j u hu => by
              rw [Addr.add_lit, Nat.zero_add]
              exact (hh3.1 j).trans (by simpa using hu)) (by have := unhide HLN; rw [List.length_singleton]; omega) (by
              intro q hq
              rw [List.mem_singleton] at hq
              subst hq
              exact (hh4.imp (fun W hW => ⟨aa5, ca5, rfl, hW⟩)).less (fun b _ h => by have h9 := h.1; exact ⟨⟨⟨by omega, by omega, by omega⟩, fun e => by have e' : b = fg := Option.some.inj e; omega⟩, fun e => by have e' : b = og := Option.some.inj e; omega⟩))
            have hgb : ∀ b, b < w12.heap.size → some b ≠ some og → w6.heap[b]? = w12.heap[b]? := fun b hb h => (y6.block b (by omega) h).trans (hst.block b hb)
            have hgl : g5 = og ∨ w12.heap.size ≤ g5 := by
              rcases l6 with l | l
              · exact .inl (Option.some.inj (show some og = some g5 from l)).symm
              · exact .inr (by omega)
            have hb0 : Below 0 w12 w6 := (hst.mono (Nat.zero_le _)).grown y6 (Nat.zero_le _) (fun _ _ => Nat.zero_le _)
            have HX := hide (And.intro o6 (And.intro hgb (And.intro hgl hb0)))
            simp only [List.length_singleton] at r6
            clear hst hcl hA hdep hbh hup hh1 hh2 hh3 hh4 hO5 hgb hgl hb0 o6 y6 l6 hi hz0 hz1 hz2 hl zx zz hsz
            simp only [frmFrom, Nat.reduceAdd, Nat.reduceLeDiff, Nat.reduceEqDiff, decide_true, decide_false, Bool.and_true, Bool.and_false, Bool.or_true, Bool.or_false, Bool.false_eq_true, if_true, if_false]
            refine step_runD (a := Act.mk _ _) rfl (.tmp 45) (.tmp 54) 84 rfl rfl (.slice (some ⟨og, 0, none⟩) os.length oc') (.slice (some ⟨h, 0, none⟩) 1 1) (by simp [Act.eval, d0]) (by simp [Act.eval, d9]) (.slice (some ⟨g5, 0, none⟩) (os.length + 1) c5) w6 r6 ?_
            refine hK _ _ ⟨updU us 55 (.slice (some ⟨g5, 0, none⟩) (os.length + 1) c5), by simp [frmFrom, updU, Act.put], (fun h => by rw [updL_same] at h; cases h), fun _ => ?_⟩
            exact ⟨g5, c5, aa5, ca5, updU_same _ _ _, (fun h => by rw [updL_other _ _ _ (by decide), h11] at h; cases h), (unhide HX).1, (unhide HX).2⟩
          -- operation 11
          · rintro L us w ⟨-, hB2⟩ hl hdep hbh hup K hK
            have h10 : L 10 = true := (hup 10 (by decide) (by kernel_rfl))
            obtain ⟨g5, c5, aa5, ca5, e55, -, hX⟩ := hB2 h10
            have HX := hide hX
            clear hB2 hdep hbh hup hl hX
            simp only [frmFrom, Nat.reduceAdd, Nat.reduceLeDiff, Nat.reduceEqDiff, decide_true, decide_false, Bool.and_true, Bool.and_false, Bool.or_true, Bool.or_false, Bool.false_eq_true, if_true, if_false]
            go_simp
            refine hK _ _ ⟨updU us 8 (.slice (some ⟨g5, 0, none⟩) (os.length + 1) c5), by simp [frmFrom, updU, e55], (fun h => by rw [updL_other _ _ _ (by decide), h10] at h; cases h), fun _ => ?_⟩
            exact ⟨g5, c5, aa5, ca5, (updU_other _ _ _ _ (by decide)).trans e55, (fun _ => updU_same _ _ _), unhide HX⟩
        · rintro L us w13 ⟨-, hB2⟩ hall
          obtain ⟨g5, c5, aa2, ca2, e55, e8', o6, b6, y6⟩ := hB2 (hall 10 (by decide))
          have e8'' := e8' (hall 11 (by decide))
          have HX := hide (And.intro o6 (And.intro b6 y6))
          clear hB2 hall e8' o6 b6 y6
          simp only [frmFrom, Nat.reduceAdd, Nat.reduceLeDiff, Nat.reduceEqDiff, decide_true, decide_false, Bool.and_true, Bool.and_false, Bool.or_true, Bool.or_false, Bool.false_eq_true, if_true, if_false]
          rw [e8'']
          go_wp2
          go_roundw
          case rel =>
            obtain ⟨o6, y6, l6, hz6⟩ := unhide HX
            have zx := unhide HZ12
            have zz := unhide HZZ
            have hbel : ∀ b, b < w12.heap.size → some b ≠ some og → w13.heap[b]? = w12.heap[b]? := fun b hb h => y6 b hb h
            have hgg : g5 = og ∨ w12.heap.size ≤ g5 := l6
            refine ⟨k - 1, q7 + 1, (fs ++ [(x, [.string nm, .bool pb, .slice aa args.length ca, .int .i64 ty, .int .i64 0, .int .i64 0, .string ⟨#[]⟩, .string ⟨#[]⟩, .slice none 0 0])]), some ⟨fg, 0, none⟩, fc', os ++ [(⟨⟨#[]⟩, nm, zs, ty⟩, [.string ⟨#[]⟩, .string nm, .slice aa2 zs.length ca2, .int .i64 ty])], g5, c5, by rw [List.length_append, List.length_singleton], by go_num, by rw [List.length_append, List.length_singleton]; omega, hide ?_, hide ?_, hide ?_, hide ?_, hide ?_, hide ?_, hide ?_, hide ?_⟩
            · rw [List.length_append, List.length_singleton]
              have h12 := unhide HR12
              have hbb : Below (B + 1) w12 w13 := ⟨hz6.os, hz6.tape, hz6.output, hz6.size, fun b hb => y6 b (by omega) (fun e => by have := Option.some.inj e; omega)⟩
              exact ⟨h12.rd.kept hbb, ⟨h12.mv.1.trans (hbb.mono (by omega)), fun b hb hbB => (y6 b (Nat.lt_of_lt_of_le hb h12.size) (fun e => by have := Option.some.inj e; omega)).trans (h12.mv.2 b hb hbB)⟩, h12.le⟩
            · rw [List.length_append, List.length_singleton]
              exact (unhide HMB12).ofb (y6 W2.heap.size (by omega) (fun e => by have := Option.some.inj e; omega))
            · rw [List.length_append, List.length_singleton]
              exact (unhide HF12).beside ⟨hz6.os, hz6.tape, hz6.output, hz6.size, fun b hb h => y6 b hb h⟩ (l6.imp (fun e => by rw [e]) id) (fun g hg => by have : fg = g := Option.some.inj hg; exact ⟨⟨by omega, by omega⟩, fun e => by have := Option.some.inj e; omega⟩)
            · rw [List.length_append, List.length_singleton, List.length_append, List.length_singleton]; exact o6
            · rw [List.length_append, List.length_singleton]
              exact ⟨fun e => by have := Option.some.inj (show some fg = some g5 from e); omega, fun e => by have := Option.some.inj (show some fg = some _ from e); omega, by omega, by have := hz6.size; omega⟩
            · exact (unhide HT12).trans ⟨hz6.size, fun b hb h => y6 b hb (fun e => by have := Option.some.inj e; have := unhide HGU; rcases h with h | h | h <;> omega)⟩
            · intro y hy
              rcases List.mem_append.1 hy with hy | hy
              · exact unhide HFP y hy
              · rw [List.mem_singleton] at hy
                subst hy
                exact ⟨(unhide HFX).1, (unhide HFX).2.1⟩
            · refine ⟨fun y hy => ?_, by have := (unhide HOP).2; rw [List.length_append, List.length_singleton, List.length_append, List.length_singleton]; omega⟩
              rcases List.mem_append.1 hy with hy | hy
              · exact (unhide HOP).1 y hy
              · rw [List.mem_singleton] at hy
                subst hy
                exact ⟨Nat.zero_le _, by have := unhide HNM; show nm.size ≤ 8; omega, by have := unhide HZL; show zs.length ≤ 4; omega⟩
          case measure => simp [intOf]; omega
      · go_wp2
        go_roundw
        case rel =>
          have zx := unhide HZ12
          refine ⟨k - 1, q7 + 1, (fs ++ [(x, [.string nm, .bool pb, .slice aa args.length ca, .int .i64 ty, .int .i64 0, .int .i64 0, .string ⟨#[]⟩, .string ⟨#[]⟩, .slice none 0 0])]), some ⟨fg, 0, none⟩, fc', os, og, oc', rfl, by go_num, by rw [List.length_append, List.length_singleton]; omega, hide ?_, hide ?_, hide ?_, hide ?_, hide ?_, HT12, hide ?_, hide ⟨(unhide HOP).1, by have := (unhide HOP).2; rw [List.length_append, List.length_singleton]; omega⟩⟩
          · rw [List.length_append, List.length_singleton]; exact unhide HR12
          · rw [List.length_append, List.length_singleton]; exact unhide HMB12
          · rw [List.length_append, List.length_singleton]; exact unhide HF12
          · exact unhide HO12
          · exact ⟨fun e => by have := Option.some.inj (show some fg = some og from e); omega, fun e => by have := Option.some.inj (show some fg = some _ from e); omega, by omega, by omega⟩
          · intro y hy
            rcases List.mem_append.1 hy with hy | hy
            · exact unhide HFP y hy
            · rw [List.mem_singleton] at hy
              subst hy
              exact ⟨(unhide HFX).1, (unhide HFX).2.1⟩
        case measure => simp [intOf]; omega
    · obtain rfl : k = 0 := by omega
      obtain ⟨GB, hGB⟩ : ∃ GB, wr.heap.size = GB := ⟨_, rfl⟩
      obtain ⟨w8, hw8⟩ : ∃ w8, w8 = wr.alloc (.cells #[.pointer (some ⟨B, 0, none⟩), .slice (some ⟨og, 0, none⟩) os.length oc'] 106) := ⟨_, rfl⟩
      have hb8 : Below wr.heap.size wr w8 := by rw [hw8]; exact below_one wr _
      have zz := unhide HZZ
      have hXX := unhide HXX
      have hGL : ∀ g, (Value.slice fa fs.length fc).ownBlock = some g → W2.heap.size + 1 ≤ g ∧ g < wr.heap.size := (unhide HFF).row.lt
      have hOL : W2.heap.size + 1 ≤ og ∧ og < wr.heap.size := (unhide HOO).row.lt og rfl
      have HR8 : Hid (RdM B a len cap (40 + 2600 * 0) w0 w8 p q) := hide (by rw [hw8]; exact ((unhide HRD).alloc (by omega) _).more (by omega))
      have HM8 := hide ((unhide HMB).below hb8 (by omega))
      have HG8 : Hid (Blk w8 GB [.pointer (some ⟨B, 0, none⟩), .slice (some ⟨og, 0, none⟩) os.length oc']) := hide (by rw [hw8, ← hGB]; exact Blk.new wr [.pointer (some ⟨B, 0, none⟩), .slice (some ⟨og, 0, none⟩) os.length oc'] _)
      have HF8 : Hid (OwnD (EltF 7) 9 33 (fun b => (w0.heap.size < b ∧ b ≠ W2.heap.size) ∧ some b ≠ some og) (W2.heap.size + 1) w8 (.slice fa fs.length fc) fs) := hide (((unhide HFF).staySub (StayD.below hb8) (fun g hg => by have := hGL g hg; exact ⟨⟨by omega, by omega⟩, fun e => hXX.1 (hg.trans e)⟩)).map (fun W x C h => h.ups (by omega)))
      have HO8 := hide ((unhide HOO).staySub (StayD.below hb8) (fun g hg => by have : og = g := Option.some.inj hg; exact ⟨⟨by omega, by omega, by omega⟩, fun e => hXX.1 (e.symm.trans (by rw [this]))⟩))
      have HT8 : Hid (StayD (fun b => b = gu ∨ b = w0.heap.size) W5 w8) := hide (((unhide HTT).trans (StayD.below hb8)).less (fun b _ h => by rcases h with h | h; exact .inl h; exact .inr (.inl h)))
      have HP8 : Hid (∀ x ∈ fs, FOk x.1 ∧ x.1.body.wt ≤ 4000) := hide (fun x hx => ⟨(unhide HFP x hx).1, Nat.le_trans (unhide HFP x hx).2 (by omega)⟩)
      have HGZ : Hid (GB < w8.heap.size) := hide (by rw [hw8, alloc_size]; omega)
      have HC : Hid (fs.length ≤ 3 ∧ (Value.slice fa fs.length fc).ownBlock ≠ some og ∧ W2.heap.size + 1 ≤ og ∧ og < GB ∧ ∀ g, (Value.slice fa fs.length fc).ownBlock = some g → W2.heap.size + 1 ≤ g ∧ g < GB) := hide ⟨by omega, hXX.1, hOL.1, by omega, fun g hg => by have := hGL g hg; omega⟩
      have HSO : Hid ((∀ x ∈ os, SgOk x.1) ∧ os.length ≤ 1000) := hide ⟨(unhide HOP).1, by have := (unhide HOP).2; omega⟩
      have hfl : fs.length ≤ 3 := by omega
      clear hb8 zz hXX hGL hOL HRD HMB HFF HOO HXX HTT HFP HOP hq
      go_wp2
      rw [← hw8]
      clear hw8
      go_loopw [13] (fun iv wq => ∃ (k q : Nat) (gs : List (TF × List Value)), iv = .int .i64 k ∧ k ≤ fs.length ∧ Hid (gs.length = fs.length) ∧ Hid (RdM B a len cap (40 + 2600 * k) w0 wq p q) ∧ Hid (Blk wq W2.heap.size [.slice (some ⟨gu, 0, none⟩) uses.length cu, .slice fa fs.length fc, .slice none 0 0]) ∧ Hid (Blk wq GB [.pointer (some ⟨B, 0, none⟩), .slice (some ⟨og, 0, none⟩) os.length oc']) ∧
    Hid (OwnD (EltF 7) 9 33 (fun b => (w0.heap.size < b ∧ b ≠ W2.heap.size) ∧ some b ≠ some og) (W2.heap.size + 1) wq (.slice fa fs.length fc) gs) ∧ Hid (OwnD EltS 4 102 (fun b => (b ≠ B ∧ b ≠ w0.heap.size ∧ b ≠ W2.heap.size) ∧ some b ≠ (Value.slice fa fs.length fc).ownBlock) (W2.heap.size + 1) wq (.slice (some ⟨og, 0, none⟩) os.length oc') os) ∧
    Hid (StayD (fun b => b = gu ∨ b = w0.heap.size) W5 wq) ∧ Hid (∀ x ∈ gs, FOk x.1 ∧ x.1.body.wt ≤ 4000) ∧ Hid (GB < wq.heap.size)) (fun iv _ => fs.length - (intOf iv).toNat)
      case atStart => exact ⟨0, q, fs, by simp, Nat.zero_le _, hide rfl, HR8, HM8, HG8, HF8, HO8, HT8, HP8, HGZ⟩
      case round =>
        clear HR8 HM8 HG8 HF8 HO8 HT8 HP8 HGZ
        obtain ⟨k, q', gs, rfl, hk, HGL, HRD, HMB, HGB, HFF, HOO, HTT, HFP, HGZ⟩ := hrel
        have qm := (unhide HMB).cellAt (i := 1) rfl
        by_cases hp2 : k < fs.length
        · have hkg : k < gs.length := by rw [unhide HGL]; exact hp2
          obtain ⟨fg, hfa⟩ : ∃ fg, fa = some ⟨fg, 0, none⟩ := by
            rcases (unhide HFF).row.2 with ⟨_, h0⟩ | ⟨g, cap'', cur, e, _⟩
            · omega
            · simp only [Value.slice.injEq] at e; exact ⟨g, e.1⟩
          subst hfa
          have hLs := unhide HC
          have hfgl := hLs.2.2.2.2 fg rfl
          have zz := unhide HZZ
          obtain ⟨xp, hxp⟩ : ∃ xp, gs[k]'hkg = xp := ⟨_, rfl⟩
          have hxm : xp ∈ gs := by rw [← hxp]; exact List.getElem_mem hkg
          have hfo := (unhide HFP) xp hxm
          have hcl : ∀ i, i < 9 → wr.cell? ⟨fg, k * 9 + i, none⟩ = xp.2[i]? := fun i hi => by have := (unhide HFF).cell k hkg i hi; rw [hxp] at this; exact this
          have hel : KpD (OffD (fun b => (w0.heap.size < b ∧ b ≠ W2.heap.size) ∧ some b ≠ some og) (some fg)) wr (fun W => EltF 7 W xp.1 xp.2) := (unhide HFF).els xp hxm
          obtain ⟨c0, c1, c2, c3, c4, c5, c6, c7, c8, hC, hF⟩ := hel.now
          obtain ⟨xs, pb, xa, xl, xc, ty, e0, e1, e2, e3, e4, e5, e6, rfl, rfl, rfl, rfl, rfl, rfl, rfl, rfl, rfl⟩ := IsFun.form 7 hF
          have hxv : xs = xp.1.name ∧ pb = xp.1.pub ∧ xl = xp.1.args.length ∧ ty = xp.1.type := by
            obtain ⟨aa', ca', b0, b1, b2, b3, b4, hv, _⟩ := hF
            simp only [Value.agg.injEq, Array.mk.injEq, List.cons.injEq, Value.string.injEq, Value.bool.injEq, Value.int.injEq, Value.slice.injEq, true_and] at hv
            exact ⟨hv.1, hv.2.1, hv.2.2.1.2.1, hv.2.2.2.1⟩
          obtain ⟨vars, hvars⟩ : ∃ l, xp.1.args = l := ⟨_, rfl⟩
          have hva : KpD (OffD (fun b => (w0.heap.size < b ∧ b ≠ W2.heap.size) ∧ some b ≠ some og) (some fg)) wr (fun W => IsArgs (IsArg W 0 W.heap.size) W 0 W.heap.size xa vars) := hel.imp (fun W hW => by
            obtain ⟨d0, d1, d2, d3, d4, d5, d6, d7, d8, hD, hG⟩ := hW
            rw [hC] at hD
            simp only [List.cons.injEq, and_true] at hD
            obtain ⟨rfl, rfl, rfl, rfl, rfl, rfl, rfl, rfl, rfl⟩ := hD
            obtain ⟨aa', ca', b0, b1, b2, b3, b4, hv, _, ha, _⟩ := hG
            simp only [Value.agg.injEq, Array.mk.injEq, List.cons.injEq, Value.slice.injEq] at hv
            rw [hv.2.2.1.1, ← hvars]
            exact ha)
          have hxl : xl = vars.length := by rw [← hvars]; exact hxv.2.2.1
          subst hxl
          rw [hC] at hcl
          have z0 : wr.cell? ⟨fg, k * 9, none⟩ = some (.string xs) := hcl 0 (by omega)
          have z1 : wr.cell? ⟨fg, k * 9 + 1, none⟩ = some (.bool pb) := hcl 1 (by omega)
          have z2 : wr.cell? ⟨fg, k * 9 + 2, none⟩ = some (.slice xa vars.length xc) := hcl 2 (by omega)
          have z3 : wr.cell? ⟨fg, k * 9 + 3, none⟩ = some (.int .i64 ty) := hcl 3 (by omega)
          have z4 : wr.cell? ⟨fg, k * 9 + 4, none⟩ = some (.int .i64 e0) := hcl 4 (by omega)
          have z5 : wr.cell? ⟨fg, k * 9 + 5, none⟩ = some (.int .i64 e1) := hcl 5 (by omega)
          have z6 : wr.cell? ⟨fg, k * 9 + 6, none⟩ = some (.string e2) := hcl 6 (by omega)
          have z7 : wr.cell? ⟨fg, k * 9 + 7, none⟩ = some (.string e3) := hcl 7 (by omega)
          have z8 : wr.cell? ⟨fg, k * 9 + 8, none⟩ = some (.slice e4 e5 e6) := hcl 8 (by omega)
          have HQB : Hid (q' ≤ 800000010000) := hide (by have := (unhide HRD).le; omega)
          obtain ⟨W8, hW8⟩ : ∃ W8, W8 = wr.alloc (.cells #[.string xs, .bool pb, .slice xa vars.length xc, .int .i64 ty, .int .i64 e0, .int .i64 e1, .string e2, .string e3, .slice e4 e5 e6] 33) := ⟨_, rfl⟩
          have hb8 : Below wr.heap.size wr W8 := by rw [hW8]; exact below_one wr _
          have hz8 : W8.heap.size = wr.heap.size + 1 := by rw [hW8]; simp
          have hgz := unhide HGZ
          have HRD8 := hide ((unhide HRD).below (by omega) hb8)
          have HMB8 := hide ((unhide HMB).below hb8 (by omega))
          have HGB8 := hide ((unhide HGB).below hb8 hgz)
          have HFB8 : Hid (Blk W8 wr.heap.size [.string xs, .bool pb, .slice xa vars.length xc, .int .i64 ty, .int .i64 e0, .int .i64 e1, .string e2, .string e3, .slice e4 e5 e6]) := hide (by rw [hW8]; exact Blk.new wr [.string xs, .bool pb, .slice xa vars.length xc, .int .i64 ty, .int .i64 e0, .int .i64 e1, .string e2, .string e3, .slice e4 e5 e6] 33)
          have hF8 := (unhide HFF).staySub (StayD.below hb8) (fun g hg => by have : fg = g := Option.some.inj hg; exact ⟨⟨by omega, by omega⟩, fun e => hLs.2.1 (by rw [← e, ← this]; rfl)⟩)
          have hO8 := (unhide HOO).staySub (StayD.below hb8) (fun g hg => by have : og = g := Option.some.inj hg; exact ⟨⟨by omega, by omega, by omega⟩, fun e => hLs.2.1 (by rw [← e, ← this])⟩)
          have HF8 := hide hF8
          have HO8 := hide hO8
          have HVA8 := hide (hva.stay (StayD.below hb8))
          have HGEN : Hid (GenD B GB a len cap (some ⟨og, 0, none⟩) oc' os W8 q') := hide ⟨(unhide HRD8).rd, (unhide HGB8).1 0, (unhide HGB8).1 1, by omega, by omega, by omega, (hO8.readsSub (fun g hg => by have : og = g := Option.some.inj hg; exact ⟨⟨by omega, by omega, by omega⟩, fun e => hLs.2.1 (by rw [← e, ← this])⟩)).less (fun b _ h => h.1.1)⟩
          have HVL : Hid (vars.length ≤ 2 ∧ ∀ y ∈ vars, y.name.size ≤ 8) := hide (by rw [← hvars]; exact ⟨hfo.1.2.1, hfo.1.2.2⟩)
          have HXV := hide (And.intro hxv.1 (And.intro hxv.2.1 (And.intro hxv.2.2.2 (And.intro hvars hfo.1))))
          have HC0 := hide hC
          have HXP : Hid (gs[k]? = some xp) := hide (by rw [List.getElem?_eq_getElem hkg, hxp])
          have HKG := hide hkg
          have HTT8 := hide ((unhide HTT).trans (StayD.below hb8))
          have HXZ : Hid (W8.heap.size = wr.heap.size + 1 ∧ W2.heap.size + 1 ≤ fg ∧ fg < GB ∧ GB < wr.heap.size ∧ B < w0.heap.size ∧ w0.heap.size + 2 ≤ W2.heap.size ∧ fg ≠ og ∧ W2.heap.size + 1 ≤ og ∧ og < GB ∧ w0.heap.size = w0.heap.size) := hide ⟨by omega, by omega, by omega, by omega, by omega, by omega, fun e => hLs.2.1 (by rw [e]; rfl), by omega, by omega, by omega⟩
          have HFL : Hid (wr.heap.size < W8.heap.size ∧ W2.heap.size < W8.heap.size) := hide ⟨by omega, by omega⟩
          clear hLs hfgl zz hxp hxm hfo hcl hel hC hF hxv hvars hva hb8 hz8 hgz hF8 hO8 hkg HFF HOO HRD HMB HGB HTT
          go_wp2
          rw [← hW8]
          clear hW8 z0 z1 z2 z3 z4 z5 z6 z7 z8 qm
          refine wp_region_inv (by kernel_rfl) (fun k => decide (72 ≤ k) && decide (k ≤ 85)) (fun L us w => (L 14 = false → ∃ q2, RdM B a len cap (cond (L 9) 1 0 + cond (L 11) 2500 0) W8 w q' q2 ∧ Cl (ModB W8.heap.size 0 W2.heap.size fg fs.length fc k GB wr.heap.size B ty (.slice xa vars.length xc)) (fun j => 72 + j) L us w) ∧
            (L 14 = true → ∃ (q2 : Nat) (a5 b5 : Int) (c5 y5 : ByteArray) (s5 : Option Addr) (l5 t5 : Nat) (x5 : TE), RdM B a len cap (40 + 2600 * k + 2501) w0 w p q2 ∧ x5.wt ≤ 3000 ∧ StayD (fun b => b ≠ B ∧ b ≠ fg) W8 w ∧ OwnD (EltF 7) 9 33 (fun b => (w0.heap.size < b ∧ b ≠ W2.heap.size) ∧ some b ≠ some og) (W2.heap.size + 1) w (.slice (some ⟨fg, 0, none⟩) fs.length fc) (gs.set k (⟨xp.1.name, xp.1.pub, vars, xp.1.type, x5⟩, [.string xs, .bool pb, .slice xa vars.length xc, .int .i64 ty, .int .i64 a5, .int .i64 b5, .string c5, .string y5, .slice s5 l5 t5])))) (by kernel_rfl) ?_ ?_ ?_
          · refine ⟨fun _ => ⟨q', ?_, fun j hj => ?_⟩, (fun h => by simp at h)⟩
            · exact (RdM.refl (unhide HRD8).rd).drew
            · have hj2 : 15 ≤ j := of_decide_eq_true hj
              obtain ⟨m', rfl⟩ : ∃ m', j = m' + 14 := ⟨j - 14, by omega⟩
              trivial
          · refine ⟨?_, ?_, ?_, ?_, ?_, ?_, ?_, ?_, ?_, ?_, ?_, ?_, ?_, ?_, ?_, trivial⟩
            -- operation 0
            · rintro L us w ⟨hA, -⟩ hl hdep hbh hup K hK
              have hlast : L 14 = false := hbh 14 (by kernel_rfl)
              have hnl : updL L 0 14 = false := (updL_other _ _ _ (by decide)).trans hlast
              obtain ⟨q2, hst, hcl⟩ := hA hlast
              have HST := hide hst
              have HCL := hide hcl
              have HQL := hide hst.le
              clear hst hcl hA hdep hbh hup hl hlast
              simp only [frmFrom, Nat.reduceAdd, Nat.reduceLeDiff, decide_true, decide_false, Bool.and_true, Bool.and_false, if_true, if_false, Bool.false_eq_true]
              go_simp
              refine hK _ _ ⟨updU us 72 (.pointer (some ⟨W2.heap.size, 1, none⟩)), by simp [frmFrom, updU], fun _ => ?_, (fun h => by rw [hnl] at h; cases h)⟩
              have hs2 : StayD (fun b => b ≠ B) w w := StayD.refl _ _
              refine ⟨q2, ?_, (unhide HCL).put (fun j v h => ModB.stay hs2 (fun _ h => by have := unhide HFL; have := unhide HXZ; have := h.1; show _ ≠ B; omega) j v h) (rfl) (fun j hj => by omega)⟩
              rw [updL_other _ 0 9 (by decide), updL_other _ 0 11 (by decide)]
              exact unhide HST
            -- operation 1
            · rintro L us w ⟨hA, -⟩ hl hdep hbh hup K hK
              have hlast : L 14 = false := hbh 14 (by kernel_rfl)
              have hnl : updL L 1 14 = false := (updL_other _ _ _ (by decide)).trans hlast
              obtain ⟨q2, hst, hcl⟩ := hA hlast
              have d0 : us 72 = _ := hcl 0 (hup 0 (by decide) (by kernel_rfl))
              have qm : w.cell? ⟨W2.heap.size, 1, none⟩ = some (.slice (some ⟨fg, 0, none⟩) fs.length fc) := (World.cell?_of_block (w := W8) (a := ⟨W2.heap.size, 1, none⟩) (hst.mv.2 W2.heap.size (unhide HFL).2 (by have := unhide HXZ; omega))).trans ((unhide HMB8).1 1)
              have HST := hide hst
              have HCL := hide hcl
              have HQL := hide hst.le
              clear hst hcl hA hdep hbh hup hl hlast
              simp only [frmFrom, Nat.reduceAdd, Nat.reduceLeDiff, decide_true, decide_false, Bool.and_true, Bool.and_false, if_true, if_false, Bool.false_eq_true]
              go_simp
              refine hK _ _ ⟨updU us 73 (.slice (some ⟨fg, 0, none⟩) fs.length fc), by simp [frmFrom, updU, d0], fun _ => ?_, (fun h => by rw [hnl] at h; cases h)⟩
              have hs2 : StayD (fun b => b ≠ B) w w := StayD.refl _ _
              refine ⟨q2, ?_, (unhide HCL).put (fun j v h => ModB.stay hs2 (fun _ h => by have := unhide HFL; have := unhide HXZ; have := h.1; show _ ≠ B; omega) j v h) (rfl) (fun j hj => by omega)⟩
              rw [updL_other _ 1 9 (by decide), updL_other _ 1 11 (by decide)]
              exact unhide HST
            -- operation 2
            · rintro L us w ⟨hA, -⟩ hl hdep hbh hup K hK
              have hlast : L 14 = false := hbh 14 (by kernel_rfl)
              have hnl : updL L 2 14 = false := (updL_other _ _ _ (by decide)).trans hlast
              obtain ⟨q2, hst, hcl⟩ := hA hlast
              have HST := hide hst
              have HCL := hide hcl
              have HQL := hide hst.le
              clear hst hcl hA hdep hbh hup hl hlast
              simp only [frmFrom, Nat.reduceAdd, Nat.reduceLeDiff, decide_true, decide_false, Bool.and_true, Bool.and_false, if_true, if_false, Bool.false_eq_true]
              go_simp
              refine hK _ _ ⟨updU us 74 (.int .i64 (k : Int)), by simp [frmFrom, updU], fun _ => ?_, (fun h => by rw [hnl] at h; cases h)⟩
              have hs2 : StayD (fun b => b ≠ B) w w := StayD.refl _ _
              refine ⟨q2, ?_, (unhide HCL).put (fun j v h => ModB.stay hs2 (fun _ h => by have := unhide HFL; have := unhide HXZ; have := h.1; show _ ≠ B; omega) j v h) (rfl) (fun j hj => by omega)⟩
              rw [updL_other _ 2 9 (by decide), updL_other _ 2 11 (by decide)]
              exact unhide HST
            -- operation 3
            · rintro L us w ⟨hA, -⟩ hl hdep hbh hup K hK
              have hlast : L 14 = false := hbh 14 (by kernel_rfl)
              have hnl : updL L 3 14 = false := (updL_other _ _ _ (by decide)).trans hlast
              obtain ⟨q2, hst, hcl⟩ := hA hlast
              have HST := hide hst
              have HCL := hide hcl
              have HQL := hide hst.le
              clear hst hcl hA hdep hbh hup hl hlast
              simp only [frmFrom, Nat.reduceAdd, Nat.reduceLeDiff, decide_true, decide_false, Bool.and_true, Bool.and_false, if_true, if_false, Bool.false_eq_true]
              go_simp
              refine hK _ _ ⟨updU us 75 (.pointer (some ⟨GB, 0, none⟩)), by simp [frmFrom, updU], fun _ => ?_, (fun h => by rw [hnl] at h; cases h)⟩
              have hs2 : StayD (fun b => b ≠ B) w w := StayD.refl _ _
              refine ⟨q2, ?_, (unhide HCL).put (fun j v h => ModB.stay hs2 (fun _ h => by have := unhide HFL; have := unhide HXZ; have := h.1; show _ ≠ B; omega) j v h) (rfl) (fun j hj => by omega)⟩
              rw [updL_other _ 3 9 (by decide), updL_other _ 3 11 (by decide)]
              exact unhide HST
            -- operation 4
            · rintro L us w ⟨hA, -⟩ hl hdep hbh hup K hK
              have hlast : L 14 = false := hbh 14 (by kernel_rfl)
              have hnl : updL L 4 14 = false := (updL_other _ _ _ (by decide)).trans hlast
              obtain ⟨q2, hst, hcl⟩ := hA hlast
              have HST := hide hst
              have HCL := hide hcl
              have HQL := hide hst.le
              clear hst hcl hA hdep hbh hup hl hlast
              simp only [frmFrom, Nat.reduceAdd, Nat.reduceLeDiff, decide_true, decide_false, Bool.and_true, Bool.and_false, if_true, if_false, Bool.false_eq_true]
              go_simp
              refine hK _ _ ⟨updU us 76 (.pointer (some ⟨wr.heap.size, 3, none⟩)), by simp [frmFrom, updU], fun _ => ?_, (fun h => by rw [hnl] at h; cases h)⟩
              have hs2 : StayD (fun b => b ≠ B) w w := StayD.refl _ _
              refine ⟨q2, ?_, (unhide HCL).put (fun j v h => ModB.stay hs2 (fun _ h => by have := unhide HFL; have := unhide HXZ; have := h.1; show _ ≠ B; omega) j v h) (rfl) (fun j hj => by omega)⟩
              rw [updL_other _ 4 9 (by decide), updL_other _ 4 11 (by decide)]
              exact unhide HST
            -- operation 5
            · rintro L us w ⟨hA, -⟩ hl hdep hbh hup K hK
              have hlast : L 14 = false := hbh 14 (by kernel_rfl)
              have hnl : updL L 5 14 = false := (updL_other _ _ _ (by decide)).trans hlast
              obtain ⟨q2, hst, hcl⟩ := hA hlast
              have d4 : us 76 = _ := hcl 4 (hup 4 (by decide) (by kernel_rfl))
              have zq3 : w.cell? ⟨wr.heap.size, 3, none⟩ = some (.int .i64 ty) := (World.cell?_of_block (w := W8) (a := ⟨wr.heap.size, 3, none⟩) (hst.mv.2 wr.heap.size (unhide HFL).1 (by have := unhide HXZ; omega))).trans ((unhide HFB8).1 3)
              have HST := hide hst
              have HCL := hide hcl
              have HQL := hide hst.le
              clear hst hcl hA hdep hbh hup hl hlast
              simp only [frmFrom, Nat.reduceAdd, Nat.reduceLeDiff, decide_true, decide_false, Bool.and_true, Bool.and_false, if_true, if_false, Bool.false_eq_true]
              go_simp
              refine hK _ _ ⟨updU us 77 (.int .i64 ty), by simp [frmFrom, updU, d4], fun _ => ?_, (fun h => by rw [hnl] at h; cases h)⟩
              have hs2 : StayD (fun b => b ≠ B) w w := StayD.refl _ _
              refine ⟨q2, ?_, (unhide HCL).put (fun j v h => ModB.stay hs2 (fun _ h => by have := unhide HFL; have := unhide HXZ; have := h.1; show _ ≠ B; omega) j v h) (rfl) (fun j hj => by omega)⟩
              rw [updL_other _ 5 9 (by decide), updL_other _ 5 11 (by decide)]
              exact unhide HST
            -- operation 6
            · rintro L us w ⟨hA, -⟩ hl hdep hbh hup K hK
              have hlast : L 14 = false := hbh 14 (by kernel_rfl)
              have hnl : updL L 6 14 = false := (updL_other _ _ _ (by decide)).trans hlast
              obtain ⟨q2, hst, hcl⟩ := hA hlast
              have HST := hide hst
              have HCL := hide hcl
              have HQL := hide hst.le
              clear hst hcl hA hdep hbh hup hl hlast
              simp only [frmFrom, Nat.reduceAdd, Nat.reduceLeDiff, decide_true, decide_false, Bool.and_true, Bool.and_false, if_true, if_false, Bool.false_eq_true]
              go_simp
              refine hK _ _ ⟨updU us 78 (.pointer (some ⟨wr.heap.size, 2, none⟩)), by simp [frmFrom, updU], fun _ => ?_, (fun h => by rw [hnl] at h; cases h)⟩
              have hs2 : StayD (fun b => b ≠ B) w w := StayD.refl _ _
              refine ⟨q2, ?_, (unhide HCL).put (fun j v h => ModB.stay hs2 (fun _ h => by have := unhide HFL; have := unhide HXZ; have := h.1; show _ ≠ B; omega) j v h) (rfl) (fun j hj => by omega)⟩
              rw [updL_other _ 6 9 (by decide), updL_other _ 6 11 (by decide)]
              exact unhide HST
            -- operation 7
            · rintro L us w ⟨hA, -⟩ hl hdep hbh hup K hK
              have hlast : L 14 = false := hbh 14 (by kernel_rfl)
              have hnl : updL L 7 14 = false := (updL_other _ _ _ (by decide)).trans hlast
              obtain ⟨q2, hst, hcl⟩ := hA hlast
              have d6 : us 78 = _ := hcl 6 (hup 6 (by decide) (by kernel_rfl))
              have zq2 : w.cell? ⟨wr.heap.size, 2, none⟩ = some (.slice xa vars.length xc) := (World.cell?_of_block (w := W8) (a := ⟨wr.heap.size, 2, none⟩) (hst.mv.2 wr.heap.size (unhide HFL).1 (by have := unhide HXZ; omega))).trans ((unhide HFB8).1 2)
              have HST := hide hst
              have HCL := hide hcl
              have HQL := hide hst.le
              clear hst hcl hA hdep hbh hup hl hlast
              simp only [frmFrom, Nat.reduceAdd, Nat.reduceLeDiff, decide_true, decide_false, Bool.and_true, Bool.and_false, if_true, if_false, Bool.false_eq_true]
              go_simp
              refine hK _ _ ⟨updU us 79 (.slice xa vars.length xc), by simp [frmFrom, updU, d6], fun _ => ?_, (fun h => by rw [hnl] at h; cases h)⟩
              have hs2 : StayD (fun b => b ≠ B) w w := StayD.refl _ _
              refine ⟨q2, ?_, (unhide HCL).put (fun j v h => ModB.stay hs2 (fun _ h => by have := unhide HFL; have := unhide HXZ; have := h.1; show _ ≠ B; omega) j v h) (rfl) (fun j hj => by omega)⟩
              rw [updL_other _ 7 9 (by decide), updL_other _ 7 11 (by decide)]
              exact unhide HST
            -- operation 8
            · rintro L us w ⟨hA, -⟩ hl hdep hbh hup K hK
              have hlast : L 14 = false := hbh 14 (by kernel_rfl)
              have hnl : updL L 8 14 = false := (updL_other _ _ _ (by decide)).trans hlast
              obtain ⟨q2, hst, hcl⟩ := hA hlast
              have HST := hide hst
              have HCL := hide hcl
              have HQL := hide hst.le
              clear hst hcl hA hdep hbh hup hl hlast
              simp only [frmFrom, Nat.reduceAdd, Nat.reduceLeDiff, decide_true, decide_false, Bool.and_true, Bool.and_false, if_true, if_false, Bool.false_eq_true]
              go_simp
              refine hK _ _ ⟨updU us 80 (.pointer (some ⟨B, 0, none⟩)), by simp [frmFrom, updU], fun _ => ?_, (fun h => by rw [hnl] at h; cases h)⟩
              have hs2 : StayD (fun b => b ≠ B) w w := StayD.refl _ _
              refine ⟨q2, ?_, (unhide HCL).put (fun j v h => ModB.stay hs2 (fun _ h => by have := unhide HFL; have := unhide HXZ; have := h.1; show _ ≠ B; omega) j v h) (rfl) (fun j hj => by omega)⟩
              rw [updL_other _ 8 9 (by decide), updL_other _ 8 11 (by decide)]
              exact unhide HST
            -- operation 9
            · rintro L us w ⟨hA, -⟩ hl hdep hbh hup K hK
              have hlast : L 14 = false := hbh 14 (by kernel_rfl)
              have hnl : updL L 9 14 = false := (updL_other _ _ _ (by decide)).trans hlast
              obtain ⟨q2, hst, hcl⟩ := hA hlast
              have d8 : us 80 = _ := hcl 8 (hup 8 (by decide) (by kernel_rfl))
              have hc11 : L 11 = false := hbh 11 (by kernel_rfl)
              rw [hl, hc11] at hst
              dsimp only [cond] at hst
              have HST := hide hst
              have HCL := hide hcl
              have HQL := hide hst.le
              have HNN := hide (pick_rd B a len cap q2 3 w hst.rd (by have := hst.le; have := unhide HQB; omega) (by omega))
              clear hst hcl hA hdep hbh hup hlast
              simp only [frmFrom, Nat.reduceAdd, Nat.reduceLeDiff, decide_true, decide_false, Bool.and_true, Bool.and_false, if_true, if_false, Bool.false_eq_true]
              go_simp
              refine (unhide HNN).mono ?_
              rintro r w5 ⟨i, rfl, j0, j1, hk5, -⟩
              have j2 := j1 (by omega)
              obtain ⟨n9, rfl⟩ := Int.eq_ofNat_of_zero_le j0
              clear j1
              go_simp
              refine hK _ _ ⟨updU us 81 (.int .i64 (n9 : Int)), by simp [frmFrom, updU, d8], fun _ => ?_, (fun h => by rw [hnl] at h; cases h)⟩
              have hs2 : StayD (fun b => b ≠ B) w (w5) := hk5.mv.stay (fun _ h => h)
              refine ⟨q2 + 1, ?_, (unhide HCL).put (fun j v h => ModB.stay hs2 (fun _ h => by have := unhide HFL; have := unhide HXZ; have := h.1; show _ ≠ B; omega) j v h) (⟨n9, rfl, by omega⟩) (fun j hj => by omega)⟩
              rw [updL_same, updL_other _ 9 11 (by decide), hc11]
              exact ((unhide HST).trans hk5).more (by (try dsimp only [cond]); omega)
            -- operation 10
            · rintro L us w ⟨hA, -⟩ hl hdep hbh hup K hK
              have hlast : L 14 = false := hbh 14 (by kernel_rfl)
              have hnl : updL L 10 14 = false := (updL_other _ _ _ (by decide)).trans hlast
              obtain ⟨q2, hst, hcl⟩ := hA hlast
              obtain ⟨n9, d9, j9⟩ := hcl 9 (hup 9 (by decide) (by kernel_rfl))
              have d9 : us 81 = _ := d9
              have HST := hide hst
              have HCL := hide hcl
              have HQL := hide hst.le
              clear hst hcl hA hdep hbh hup hl hlast
              simp only [frmFrom, Nat.reduceAdd, Nat.reduceLeDiff, decide_true, decide_false, Bool.and_true, Bool.and_false, if_true, if_false, Bool.false_eq_true]
              have hwr : IntKind.i64.wrap (1 + (n9 : Int)) = 1 + (n9 : Int) := by rw [IntKind.wrap_i64]; omega
              go_simp
              refine hK _ _ ⟨updU us 82 (.int .i64 (1 + (n9 : Int))), by simp [frmFrom, updU, d9], fun _ => ?_, (fun h => by rw [hnl] at h; cases h)⟩
              have hs2 : StayD (fun b => b ≠ B) w w := StayD.refl _ _
              refine ⟨q2, ?_, (unhide HCL).put (fun j v h => ModB.stay hs2 (fun _ h => by have := unhide HFL; have := unhide HXZ; have := h.1; show _ ≠ B; omega) j v h) (⟨n9, rfl, j9⟩) (fun j hj => by omega)⟩
              rw [updL_other _ 10 9 (by decide), updL_other _ 10 11 (by decide)]
              exact unhide HST
            -- operation 11
            · rintro L us w ⟨hA, -⟩ hl hdep hbh hup K hK
              have hlast : L 14 = false := hbh 14 (by kernel_rfl)
              have hnl : updL L 11 14 = false := (updL_other _ _ _ (by decide)).trans hlast
              obtain ⟨q2, hst, hcl⟩ := hA hlast
              have d3 : us 75 = _ := hcl 3 (hup 3 (by decide) (by kernel_rfl))
              have d5 : us 77 = _ := hcl 5 (hup 5 (by decide) (by kernel_rfl))
              have d7 : us 79 = _ := hcl 7 (hup 7 (by decide) (by kernel_rfl))
              obtain ⟨n9, d10, j9⟩ := hcl 10 (hup 10 (by decide) (by kernel_rfl))
              have d10 : us 82 = _ := d10
              have hc9 : L 9 = true := hup 9 (by decide) (by kernel_rfl)
              rw [hl, hc9] at hst
              dsimp only [cond] at hst
              have HST := hide hst
              have HCL := hide hcl
              have HQL := hide hst.le
              have HPW : Hid (20 * 5 ^ (n9 + 1) ≤ 2500 ∧ 24 * 5 ^ (n9 + 1) ≤ 3000) := hide (by have := Nat.pow_le_pow_right (show 0 < 5 by omega) (show n9 + 1 ≤ 3 by omega); omega)
              have HEX := hide (expr_any (n9 + 1) B GB a len cap (some ⟨og, 0, none⟩) oc' os ty xa xc vars w q2 ((unhide HGEN).step hst) (unhide HSO) (by have := (unhide HPW).1; have := hst.le; have := unhide HQB; omega) (((unhide HVA8).less (fun b _ h => by have := unhide HXZ; have := h.1.1.1; show b ≠ B; omega)).stay (hst.mv.stay (fun _ h => h))) (by have := (unhide HVL).1; omega) (unhide HVL).2)
              rw [show ((n9 + 1 : Nat) : Int) = 1 + (n9 : Int) by omega] at HEX
              clear hst hcl hA hdep hbh hup hlast
              simp only [frmFrom, Nat.reduceAdd, Nat.reduceLeDiff, decide_true, decide_false, Bool.and_true, Bool.and_false, if_true, if_false, Bool.false_eq_true]
              go_simp
              refine (unhide HEX).mono ?_
              rintro r w5 ⟨v5, x5, q5, rfl, hke, hwe, hk5⟩
              obtain ⟨a5, b5, c5, y5, s5, l5, t5, rfl⟩ := IsE.five hke.now
              have HKE := hide hke
              have HWE := hide hwe
              clear hke hwe
              go_simp
              refine hK _ _ ⟨updU us 83 (.agg #[.int .i64 a5, .int .i64 b5, .string c5, .string y5, .slice s5 l5 t5]), by simp [frmFrom, updU, d10, d3, d5, d7], fun _ => ?_, (fun h => by rw [hnl] at h; cases h)⟩
              have hs2 : StayD (fun b => b ≠ B) w (w5) := (hk5.more (unhide HPW).1).mv.stay (fun _ h => h)
              refine ⟨q5, ?_, (unhide HCL).put (fun j v h => ModB.stay hs2 (fun _ h => by have := unhide HFL; have := unhide HXZ; have := h.1; show _ ≠ B; omega) j v h) (⟨x5, ((unhide HKE).less (fun b _ h => by have h9 : w.heap.size ≤ b := h; have := (unhide HST).size; have := unhide HFL; exact ⟨by omega, by omega⟩)).imp (fun W hW => hW.ups (by omega)), Nat.le_trans (unhide HWE) (unhide HPW).2⟩) (fun j hj => by omega)⟩
              rw [updL_same, updL_other _ 11 9 (by decide), hc9]
              exact ((unhide HST).trans (hk5.more (unhide HPW).1)).more (by (try dsimp only [cond]); omega)
            -- operation 12
            · rintro L us w ⟨hA, -⟩ hl hdep hbh hup K hK
              have hlast : L 14 = false := hbh 14 (by kernel_rfl)
              have hnl : updL L 12 14 = false := (updL_other _ _ _ (by decide)).trans hlast
              obtain ⟨q2, hst, hcl⟩ := hA hlast
              have d1 : us 73 = _ := hcl 1 (hup 1 (by decide) (by kernel_rfl))
              have d2 : us 74 = _ := hcl 2 (hup 2 (by decide) (by kernel_rfl))
              have HST := hide hst
              have HCL := hide hcl
              have HQL := hide hst.le
              clear hst hcl hA hdep hbh hup hl hlast
              simp only [frmFrom, Nat.reduceAdd, Nat.reduceLeDiff, decide_true, decide_false, Bool.and_true, Bool.and_false, if_true, if_false, Bool.false_eq_true]
              go_simp
              refine hK _ _ ⟨updU us 84 (.pointer (some ⟨fg, k * 9, none⟩)), by simp [frmFrom, updU, d1, d2], fun _ => ?_, (fun h => by rw [hnl] at h; cases h)⟩
              have hs2 : StayD (fun b => b ≠ B) w w := StayD.refl _ _
              refine ⟨q2, ?_, (unhide HCL).put (fun j v h => ModB.stay hs2 (fun _ h => by have := unhide HFL; have := unhide HXZ; have := h.1; show _ ≠ B; omega) j v h) (rfl) (fun j hj => by omega)⟩
              rw [updL_other _ 12 9 (by decide), updL_other _ 12 11 (by decide)]
              exact unhide HST
            -- operation 13
            · rintro L us w ⟨hA, -⟩ hl hdep hbh hup K hK
              have hlast : L 14 = false := hbh 14 (by kernel_rfl)
              have hnl : updL L 13 14 = false := (updL_other _ _ _ (by decide)).trans hlast
              obtain ⟨q2, hst, hcl⟩ := hA hlast
              have d12 : us 84 = _ := hcl 12 (hup 12 (by decide) (by kernel_rfl))
              have HST := hide hst
              have HCL := hide hcl
              have HQL := hide hst.le
              clear hst hcl hA hdep hbh hup hl hlast
              simp only [frmFrom, Nat.reduceAdd, Nat.reduceLeDiff, decide_true, decide_false, Bool.and_true, Bool.and_false, if_true, if_false, Bool.false_eq_true]
              go_simp
              refine hK _ _ ⟨updU us 85 (.pointer (some ⟨fg, k * 9 + 4, none⟩)), by simp [frmFrom, updU, d12], fun _ => ?_, (fun h => by rw [hnl] at h; cases h)⟩
              have hs2 : StayD (fun b => b ≠ B) w w := StayD.refl _ _
              refine ⟨q2, ?_, (unhide HCL).put (fun j v h => ModB.stay hs2 (fun _ h => by have := unhide HFL; have := unhide HXZ; have := h.1; show _ ≠ B; omega) j v h) (rfl) (fun j hj => by omega)⟩
              rw [updL_other _ 13 9 (by decide), updL_other _ 13 11 (by decide)]
              exact unhide HST
            -- operation 14
            · rintro L us w ⟨hA, -⟩ hl hdep hbh hup K hK
              obtain ⟨q2, hst, hcl⟩ := hA hl
              have hc9 : L 9 = true := hup 9 (by decide) (by kernel_rfl)
              have hc11 : L 11 = true := hup 11 (by decide) (by kernel_rfl)
              rw [hc9, hc11] at hst
              dsimp only [cond] at hst
              obtain ⟨x5, k5, n5⟩ := hcl 11 (hup 11 (by decide) (by kernel_rfl))
              obtain ⟨a5, b5, c5, y5, s5, l5, t5, d11⟩ := IsE.five k5.now
              have d11 : us 83 = _ := d11
              have k5 : KeepE (fun b => W8.heap.size ≤ b ∧ b ≠ 0) 5 w (.agg #[.int .i64 a5, .int .i64 b5, .string c5, .string y5, .slice s5 l5 t5]) x5 := d11 ▸ k5
              have d13 : us 85 = _ := hcl 13 (hup 13 (by decide) (by kernel_rfl))
              have hx := unhide HXZ
              have hFw := (unhide HF8).staySub (hst.mv.stay (fun b h => by have := h.1.1; omega)) (fun g hg => by have : fg = g := Option.some.inj hg; exact ⟨⟨by omega, by omega⟩, fun e => by have e' := Option.some.inj e; omega⟩)
              obtain ⟨hkg, hxp⟩ := List.getElem?_eq_some_iff.1 (unhide HXP)
              have hrow := hFw.row
              rw [unhide HGL] at hrow
              have hC9 : gs[k].2 = [.string xs, .bool pb, .slice xa vars.length xc, .int .i64 ty, .int .i64 e0, .int .i64 e1, .string e2, .string e3, .slice e4 e5 e6] := by rw [hxp]; first | done | exact unhide HC0
              have o0 : w.cell? ⟨fg, k * 9 + 4, none⟩ = some (.int .i64 e0) := (hFw.cell k hkg 4 (by omega)).trans (by rw [hC9]; rfl)
              have f0 : w.frozen? ⟨fg, k * 9 + 4, none⟩ = false := hrow.frozenAt (k * 9 + 4)
              have o1 : w.cell? ⟨fg, k * 9 + 4 + 1, none⟩ = some (.int .i64 e1) := (hFw.cell k hkg 5 (by omega)).trans (by rw [hC9]; rfl)
              have f1 : w.frozen? ⟨fg, k * 9 + 4 + 1, none⟩ = false := hrow.frozenAt (k * 9 + 5)
              have o2 : w.cell? ⟨fg, k * 9 + 4 + 2, none⟩ = some (.string e2) := (hFw.cell k hkg 6 (by omega)).trans (by rw [hC9]; rfl)
              have f2 : w.frozen? ⟨fg, k * 9 + 4 + 2, none⟩ = false := hrow.frozenAt (k * 9 + 6)
              have o3 : w.cell? ⟨fg, k * 9 + 4 + 3, none⟩ = some (.string e3) := (hFw.cell k hkg 7 (by omega)).trans (by rw [hC9]; rfl)
              have f3 : w.frozen? ⟨fg, k * 9 + 4 + 3, none⟩ = false := hrow.frozenAt (k * 9 + 7)
              have o4 : w.cell? ⟨fg, k * 9 + 4 + 4, none⟩ = some (.slice e4 e5 e6) := (hFw.cell k hkg 8 (by omega)).trans (by rw [hC9]; rfl)
              have f4 : w.frozen? ⟨fg, k * 9 + 4 + 4, none⟩ = false := hrow.frozenAt (k * 9 + 8)
              have r1 := hFw.raw.put k hkg 4 (by omega) (.int .i64 a5) rfl (⟨xp.1.name, xp.1.pub, vars, xp.1.type, x5⟩ : TF) _ hC9
              have r2 := r1.put k (by simpa using hkg) 5 (by omega) (.int .i64 b5) rfl (⟨xp.1.name, xp.1.pub, vars, xp.1.type, x5⟩ : TF) [.string xs, .bool pb, .slice xa vars.length xc, .int .i64 ty, .int .i64 a5, .int .i64 e1, .string e2, .string e3, .slice e4 e5 e6] (by simp)
              simp only [List.set_set] at r2
              have r3 := r2.put k (by simpa using hkg) 6 (by omega) (.string c5) rfl (⟨xp.1.name, xp.1.pub, vars, xp.1.type, x5⟩ : TF) [.string xs, .bool pb, .slice xa vars.length xc, .int .i64 ty, .int .i64 a5, .int .i64 b5, .string e2, .string e3, .slice e4 e5 e6] (by simp)
              simp only [List.set_set] at r3
              have r4 := r3.put k (by simpa using hkg) 7 (by omega) (.string y5) rfl (⟨xp.1.name, xp.1.pub, vars, xp.1.type, x5⟩ : TF) [.string xs, .bool pb, .slice xa vars.length xc, .int .i64 ty, .int .i64 a5, .int .i64 b5, .string c5, .string e3, .slice e4 e5 e6] (by simp)
              simp only [List.set_set] at r4
              have r5 := r4.put k (by simpa using hkg) 8 (by omega) (.slice s5 l5 t5) rfl (⟨xp.1.name, xp.1.pub, vars, xp.1.type, x5⟩ : TF) [.string xs, .bool pb, .slice xa vars.length xc, .int .i64 ty, .int .i64 a5, .int .i64 b5, .string c5, .string y5, .slice e4 e5 e6] (by simp)
              simp only [List.set_set] at r5
              have hs0 : StayD (fun b => b ≠ fg) w _ := ((((((StayD.refl (fun b => b ≠ fg) w).set fg (k * 9 + 4) (.int .i64 a5) (fun _ h => h rfl)).set fg (k * 9 + 5) (.int .i64 b5) (fun _ h => h rfl)).set fg (k * 9 + 6) (.string c5) (fun _ h => h rfl)).set fg (k * 9 + 7) (.string y5) (fun _ h => h rfl)).set fg (k * 9 + 8) (.slice s5 l5 t5) (fun _ h => h rfl))
              have hrd := (unhide HRD8).trans hst
              have hrd5 := (((((hrd.set (by omega) fg (k * 9 + 4) (.int .i64 a5) (by omega)).set (by omega) fg (k * 9 + 5) (.int .i64 b5) (by omega)).set (by omega) fg (k * 9 + 6) (.string c5) (by omega)).set (by omega) fg (k * 9 + 7) (.string y5) (by omega)).set (by omega) fg (k * 9 + 8) (.slice s5 l5 t5) (by omega))
              have hxa := (((unhide HVA8).stay (hst.mv.stay (fun b h => by have := h.1.1.1; omega))).stay (hs0.less (fun b _ h e => h.2 (by rw [e]))))
              have hxe := (k5.stay (hs0.less (fun b _ h e => by have := h.1; omega))).less (S' := OffD (fun b => (w0.heap.size < b ∧ b ≠ W2.heap.size) ∧ some b ≠ some og) (some fg)) (fun b _ h => by have h9 := h.1; exact ⟨⟨⟨by omega, by omega⟩, fun e => by have := Option.some.inj e; omega⟩, fun e => by have := Option.some.inj e; omega⟩)
              have hnx := (unhide HXV)
              have htn := hFw.turned hs0 k (⟨xp.1.name, xp.1.pub, vars, xp.1.type, x5⟩ : TF) _ r5 (fun W hW => ⟨_, _, _, _, _, _, _, _, _, rfl, ⟨xa, xc, _, _, _, _, _, by rw [hnx.1, hnx.2.1, hnx.2.2.1], ⟨by unfold maxLen; have := hnx.2.2.2.2.1; show xp.1.name.size ≤ _; omega, by unfold maxLen; have := (unhide HVL).1; show vars.length ≤ _; omega⟩, hxa W hW, (hxe W hW).ups (by omega)⟩⟩)
              have hs1 : StayD (fun b => b ≠ B ∧ b ≠ fg) W8 _ := (hst.mv.stay (fun b h => h.1)).trans (hs0.less (fun b _ h => h.2))
              have HX := hide (And.intro hrd5 (And.intro n5 (And.intro hs1 htn)))
              clear hst hcl hA hdep hbh hup hl k5 hx hFw hrow hkg hxp hC9 r1 r2 r3 r4 r5 hs0 hrd hrd5 hxa hxe hnx htn hs1 n5
              simp only [frmFrom, Nat.reduceAdd, Nat.reduceLeDiff, decide_true, decide_false, Bool.and_true, Bool.and_false, if_true, if_false, Bool.false_eq_true]
              go_simp
              refine hK _ _ ⟨us, by simp [frmFrom, d11, d13], (fun h => by rw [updL_same] at h; cases h), fun _ => ?_⟩
              exact ⟨q2, a5, b5, c5, y5, s5, l5, t5, x5, unhide HX⟩
          · rintro L us w9 ⟨-, hB2⟩ hall
            obtain ⟨q2, a5, b5, c5, y5, s5, l5, t5, x5, hrd9, hx5, hs9, hF9⟩ := hB2 (hall 14 (by decide))
            have hx := unhide HXZ
            have hFB9 : Blk w9 wr.heap.size [.string xs, .bool pb, .slice xa vars.length xc, .int .i64 ty, .int .i64 e0, .int .i64 e1, .string e2, .string e3, .slice e4 e5 e6] := (unhide HFB8).ofb (hs9.2 wr.heap.size (by omega) ⟨by omega, by omega⟩)
            have m2 := hFB9.cellAt (i := 2) rfl
            have m3 := hFB9.cellAt (i := 3) rfl
            have hva9 := (unhide HVA8).stay (hs9.less (fun b _ h => ⟨by have := h.1.1.1; omega, fun e => h.2 (by rw [e])⟩))
            have HY : Hid (FOk ⟨xp.1.name, xp.1.pub, vars, xp.1.type, x5⟩) := hide ⟨(unhide HXV).2.2.2.2.1, (unhide HVL).1, (unhide HVL).2⟩
            have hq9 : q2 ≤ 800000020000 := by have := hrd9.le; have := (unhide HC).1; omega
            have HQ9 := hide hq9
            have HRD9 := hide hrd9
            have HX5 := hide hx5
            have HS9 := hide hs9
            have HF9 := hide hF9
            have HFB9 := hide hFB9
            have HVA9 := hide hva9
            clear hB2 hall hrd9 hx5 hs9 hF9 hFB9 hva9 hx hq9
            simp only [frmFrom, Nat.reduceAdd, Nat.reduceLeDiff, decide_true, decide_false, Bool.and_true, Bool.and_false, if_true, if_false, Bool.false_eq_true]
            by_cases t1 : ty = 1
            case neg =>
              go_wp2
              go_roundw
              case rel =>
                (repeat apply Exists.intro)
                refine ⟨?_, rfl⟩
                have hx := unhide HXZ
                have hLs := unhide HC
                have hst : StayD (fun b => b ≠ B ∧ b ≠ fg) W8 w9 := unhide HS9
                have hsz := hst.1
                have hgs := unhide HGL
                refine ⟨k + 1, q2, gs.set k ((⟨xp.1.name, xp.1.pub, vars, xp.1.type, x5⟩ : TF), [.string xs, .bool pb, .slice xa vars.length xc, .int .i64 ty, .int .i64 a5, .int .i64 b5, .string c5, .string y5, .slice s5 l5 t5]), by go_num, by omega, hide (by rw [List.length_set]; exact hgs), hide ?_, hide ((unhide HMB8).ofb (hst.2 W2.heap.size (by omega) ⟨by omega, by omega⟩)), hide ((unhide HGB8).ofb (hst.2 GB (by omega) ⟨by omega, by omega⟩)), hide ?_, hide ?_, hide ?_, hide ?_, hide (by omega)⟩
                · exact (unhide HRD9).more (by omega)
                · exact unhide HF9
                · exact (unhide HO8).staySub (hst.less (fun b _ h => ⟨h.1.1, fun e => h.2 (by rw [e]; rfl)⟩)) (fun g hg => by have : og = g := Option.some.inj hg; exact ⟨⟨by omega, by omega, by omega⟩, fun e => by have e' : g = fg := Option.some.inj e; omega⟩)
                · exact (unhide HTT8).trans ((hst.less (fun b _ h => h)).less (fun b _ h => by have := unhide HGU; rcases h with h | h <;> exact ⟨by omega, by omega⟩))
                · intro z hz
                  rcases List.mem_or_eq_of_mem_set hz with hz | rfl
                  · exact unhide HFP z hz
                  · exact ⟨unhide HY, by have := unhide HX5; show x5.wt ≤ 4000; omega⟩
              case measure => simp [intOf]; omega
            subst t1
            by_cases t2 : vars.length = 1
            case neg =>
              have t2b : ¬ (vars.length : Int) = 1 := by omega
              go_wp2
              go_roundw
              case rel =>
                (repeat apply Exists.intro)
                refine ⟨?_, rfl⟩
                have hx := unhide HXZ
                have hLs := unhide HC
                have hst : StayD (fun b => b ≠ B ∧ b ≠ fg) W8 w9 := unhide HS9
                have hsz := hst.1
                have hgs := unhide HGL
                refine ⟨k + 1, q2, gs.set k ((⟨xp.1.name, xp.1.pub, vars, xp.1.type, x5⟩ : TF), [.string xs, .bool pb, .slice xa vars.length xc, .int .i64 1, .int .i64 a5, .int .i64 b5, .string c5, .string y5, .slice s5 l5 t5]), by go_num, by omega, hide (by rw [List.length_set]; exact hgs), hide ?_, hide ((unhide HMB8).ofb (hst.2 W2.heap.size (by omega) ⟨by omega, by omega⟩)), hide ((unhide HGB8).ofb (hst.2 GB (by omega) ⟨by omega, by omega⟩)), hide ?_, hide ?_, hide ?_, hide ?_, hide (by omega)⟩
                · exact (unhide HRD9).more (by omega)
                · exact unhide HF9
                · exact (unhide HO8).staySub (hst.less (fun b _ h => ⟨h.1.1, fun e => h.2 (by rw [e]; rfl)⟩)) (fun g hg => by have : og = g := Option.some.inj hg; exact ⟨⟨by omega, by omega, by omega⟩, fun e => by have e' : g = fg := Option.some.inj e; omega⟩)
                · exact (unhide HTT8).trans ((hst.less (fun b _ h => h)).less (fun b _ h => by have := unhide HGU; rcases h with h | h <;> exact ⟨by omega, by omega⟩))
                · intro z hz
                  rcases List.mem_or_eq_of_mem_set hz with hz | rfl
                  · exact unhide HFP z hz
                  · exact ⟨unhide HY, by have := unhide HX5; show x5.wt ≤ 4000; omega⟩
              case measure => simp [intOf]; omega
            obtain ⟨v0, rfl⟩ := List.length_eq_one_iff.1 t2
            obtain ⟨ab, aoff, rfl, hab, dd1⟩ : ∃ ab aoff : Nat, xa = some ⟨ab, aoff, none⟩ ∧ ab < w9.heap.size ∧ w9.cell? ⟨ab, aoff + 1, none⟩ = some (.int .i64 v0.type) := by
              rcases (unhide HVA9).now with h | ⟨ab, aoff, e, -, hl, hc⟩
              · cases h
              · obtain ⟨c0, c1, d0, d1, hr⟩ := hc 0 (by simp)
                have hr : Value.agg #[c0, c1] = .agg #[.string v0.name, .int .i64 v0.type] := hr.1
                simp only [Value.agg.injEq, Array.mk.injEq, List.cons.injEq, and_true] at hr
                rw [hr.2] at d1
                exact ⟨ab, aoff, e, hl, by simpa using d1⟩
            clear t2
            simp only [List.length_singleton] at m2
            by_cases t3 : v0.type = 1
            case neg =>
              go_wp2
              go_roundw
              case rel =>
                (repeat apply Exists.intro)
                refine ⟨?_, rfl⟩
                have hx := unhide HXZ
                have hLs := unhide HC
                have hst : StayD (fun b => b ≠ B ∧ b ≠ fg) W8 w9 := unhide HS9
                have hsz := hst.1
                have hgs := unhide HGL
                refine ⟨k + 1, q2, gs.set k ((⟨xp.1.name, xp.1.pub, [v0], xp.1.type, x5⟩ : TF), [.string xs, .bool pb, .slice (some ⟨ab, aoff, none⟩) [v0].length xc, .int .i64 1, .int .i64 a5, .int .i64 b5, .string c5, .string y5, .slice s5 l5 t5]), by go_num, by omega, hide (by rw [List.length_set]; exact hgs), hide ?_, hide ((unhide HMB8).ofb (hst.2 W2.heap.size (by omega) ⟨by omega, by omega⟩)), hide ((unhide HGB8).ofb (hst.2 GB (by omega) ⟨by omega, by omega⟩)), hide ?_, hide ?_, hide ?_, hide ?_, hide (by omega)⟩
                · exact (unhide HRD9).more (by omega)
                · exact unhide HF9
                · exact (unhide HO8).staySub (hst.less (fun b _ h => ⟨h.1.1, fun e => h.2 (by rw [e]; rfl)⟩)) (fun g hg => by have : og = g := Option.some.inj hg; exact ⟨⟨by omega, by omega, by omega⟩, fun e => by have e' : g = fg := Option.some.inj e; omega⟩)
                · exact (unhide HTT8).trans ((hst.less (fun b _ h => h)).less (fun b _ h => by have := unhide HGU; rcases h with h | h <;> exact ⟨by omega, by omega⟩))
                · intro z hz
                  rcases List.mem_or_eq_of_mem_set hz with hz | rfl
                  · exact unhide HFP z hz
                  · exact ⟨unhide HY, by have := unhide HX5; show x5.wt ≤ 4000; omega⟩
              case measure => simp [intOf]; omega
            have HPK9 := hide (pick_rd B a len cap q2 2 w9 (unhide HRD9).rd (by have := unhide HQ9; omega) (by omega))
            go_wp2_with fail
            refine (unhide HPK9).mono ?_
            rintro r w10 ⟨j, rfl, j0, j1, hk10, -⟩
            have hx := unhide HXZ
            have hLs := unhide HC
            have hrd10 := (unhide HRD9).trans hk10
            have hs10 : StayD (fun b => b ≠ B ∧ b ≠ fg) W8 w10 := (unhide HS9).trans (hk10.mv.stay (fun b h => h.1))
            have hF10 := (unhide HF9).staySub (hk10.mv.stay (fun b h => by have := h.1.1; omega)) (fun g hg => by have : fg = g := Option.some.inj hg; exact ⟨⟨by omega, by omega⟩, fun e => by have e' := Option.some.inj e; omega⟩)
            have hO10 := (unhide HO8).staySub (hs10.less (fun b _ h => ⟨h.1.1, fun e => h.2 (by rw [e]; rfl)⟩)) (fun g hg => by have : og = g := Option.some.inj hg; exact ⟨⟨by omega, by omega, by omega⟩, fun e => by have e' : g = fg := Option.some.inj e; omega⟩)
            have hm10 := (unhide HMB8).ofb (hs10.2 W2.heap.size (by omega) ⟨by omega, by omega⟩)
            have hg10 := (unhide HGB8).ofb (hs10.2 GB (by omega) ⟨by omega, by omega⟩)
            have hv10 := (unhide HVA9).stay (hk10.mv.stay (fun b h => by have := h.1.1.1; omega))
            have hfb10 := (unhide HFB9).ofb (hk10.mv.2 wr.heap.size (by have := (unhide HS9).1; omega) (by omega))
            have HRD10 := hide hrd10
            have HS10 := hide hs10
            have HF10 := hide hF10
            have HMB10 := hide hm10
            have HFB10 := hide hfb10
            have HVA10 := hide hv10
            have HGEN10 : Hid (GenD B GB a len cap (some ⟨og, 0, none⟩) oc' os w10 (q2 + 1)) := hide ⟨hrd10.rd, hg10.1 0, hg10.1 1, by have := hs10.1; omega, by have := hs10.1; omega, by omega, (hO10.readsSub (fun g hg => by have : og = g := Option.some.inj hg; exact ⟨⟨by omega, by omega, by omega⟩, fun e => by have e' : g = fg := Option.some.inj e; omega⟩)).less (fun b _ h => h.1.1)⟩
            have HXZ2 : Hid (wr.heap.size < w10.heap.size ∧ W2.heap.size + 1 ≤ fg ∧ fg < GB ∧ GB < wr.heap.size ∧ B < w0.heap.size ∧ w0.heap.size + 2 ≤ W2.heap.size ∧ fg ≠ og ∧ W2.heap.size + 1 ≤ og ∧ og < GB ∧ w0.heap.size = w0.heap.size) := hide (by have := hs10.1; omega)
            clear hx hLs hrd10 hs10 hF10 hO10 hm10 hg10 hv10 hfb10 hk10 m2 m3 dd1
            by_cases hj : j = 0
            case neg =>
              have hjb : (j == 0) = false := by simpa using hj
              go_wp2
              go_roundw
              case rel =>
                (repeat apply Exists.intro)
                refine ⟨?_, rfl⟩
                have hx := unhide HXZ
                have hLs := unhide HC
                have hst : StayD (fun b => b ≠ B ∧ b ≠ fg) W8 w10 := unhide HS10
                have hsz := hst.1
                have hgs := unhide HGL
                refine ⟨k + 1, q2 + 1, gs.set k ((⟨xp.1.name, xp.1.pub, [v0], xp.1.type, x5⟩ : TF), [.string xs, .bool pb, .slice (some ⟨ab, aoff, none⟩) [v0].length xc, .int .i64 1, .int .i64 a5, .int .i64 b5, .string c5, .string y5, .slice s5 l5 t5]), by go_num, by omega, hide (by rw [List.length_set]; exact hgs), hide ?_, hide ((unhide HMB8).ofb (hst.2 W2.heap.size (by omega) ⟨by omega, by omega⟩)), hide ((unhide HGB8).ofb (hst.2 GB (by omega) ⟨by omega, by omega⟩)), hide ?_, hide ?_, hide ?_, hide ?_, hide (by omega)⟩
                · exact (unhide HRD10).more (by omega)
                · exact unhide HF10
                · exact (unhide HO8).staySub (hst.less (fun b _ h => ⟨h.1.1, fun e => h.2 (by rw [e]; rfl)⟩)) (fun g hg => by have : og = g := Option.some.inj hg; exact ⟨⟨by omega, by omega, by omega⟩, fun e => by have e' : g = fg := Option.some.inj e; omega⟩)
                · exact (unhide HTT8).trans ((hst.less (fun b _ h => h)).less (fun b _ h => by have := unhide HGU; rcases h with h | h <;> exact ⟨by omega, by omega⟩))
                · intro z hz
                  rcases List.mem_or_eq_of_mem_set hz with hz | rfl
                  · exact unhide HFP z hz
                  · exact ⟨unhide HY, by have := unhide HX5; show x5.wt ≤ 4000; omega⟩
              case measure => simp [intOf]; omega
            subst hj
            obtain ⟨gs2, hgs2⟩ : ∃ gs2, gs.set k ((⟨xp.1.name, xp.1.pub, [v0], xp.1.type, x5⟩ : TF), [.string xs, .bool pb, .slice (some ⟨ab, aoff, none⟩) [v0].length xc, .int .i64 1, .int .i64 a5, .int .i64 b5, .string c5, .string y5, .slice s5 l5 t5]) = gs2 := ⟨_, rfl⟩
            have HGS := hide hgs2
            rw [hgs2] at HF10
            have hkg : k < gs.length := (List.getElem?_eq_some_iff.1 (unhide HXP)).1
            have HXP2 : Hid (gs2[k]? = some ((⟨xp.1.name, xp.1.pub, [v0], xp.1.type, x5⟩ : TF), [.string xs, .bool pb, .slice (some ⟨ab, aoff, none⟩) [v0].length xc, .int .i64 1, .int .i64 a5, .int .i64 b5, .string c5, .string y5, .slice s5 l5 t5])) := hide (by rw [← hgs2, List.getElem?_set_self hkg])
            have HGL2 : Hid (gs2.length = fs.length) := hide (by rw [← hgs2, List.length_set]; exact unhide HGL)
            have HC02 : Hid (([.string xs, .bool pb, .slice (some ⟨ab, aoff, none⟩) [v0].length xc, .int .i64 1, .int .i64 a5, .int .i64 b5, .string c5, .string y5, .slice s5 l5 t5] : List Value) = [.string xs, .bool pb, .slice (some ⟨ab, aoff, none⟩) [v0].length xc, .int .i64 1, .int .i64 a5, .int .i64 b5, .string c5, .string y5, .slice s5 l5 t5]) := hide rfl
            clear hgs2 hkg
            go_wp2
            refine wp_region_inv (by kernel_rfl) (fun k => decide (108 ≤ k) && decide (k ≤ 120)) (fun L us w => (L 13 = false → ∃ q3, RdM B a len cap (cond (L 5) 20 0 + cond (L 9) 20 0 + cond (L 10) 0 0) w10 w (q2 + 1) q3 ∧ Cl (ModC w10.heap.size 0 W2.heap.size fg fs.length fc k GB wr.heap.size (.agg #[.string xs, .bool pb, .slice (some ⟨ab, aoff, none⟩) 1 xc, .int .i64 1, .int .i64 e0, .int .i64 e1, .string e2, .string e3, .slice e4 e5 e6]) (.slice (some ⟨ab, aoff, none⟩) 1 xc)) (fun j => 108 + j) L us w) ∧
              (L 13 = true → ∃ (q3 : Nat) (a6 b6 : Int) (c6 y6 : ByteArray) (s6 : Option Addr) (l6 t6 : Nat) (x6 : TE), RdM B a len cap (40 + 2600 * k + 2501 + 1 + (20 + 20 + 0)) w0 w p q3 ∧ x6.wt ≤ 3000 ∧ StayD (fun b => b ≠ B ∧ b ≠ fg) w10 w ∧ OwnD (EltF 7) 9 33 (fun b => (w0.heap.size < b ∧ b ≠ W2.heap.size) ∧ some b ≠ some og) (W2.heap.size + 1) w (.slice (some ⟨fg, 0, none⟩) fs.length fc) (gs2.set k ((⟨xp.1.name, xp.1.pub, [v0], xp.1.type, x6⟩ : TF), [.string xs, .bool pb, .slice (some ⟨ab, aoff, none⟩) [v0].length xc, .int .i64 1, .int .i64 a6, .int .i64 b6, .string c6, .string y6, .slice s6 l6 t6])))) (by kernel_rfl) ?_ ?_ ?_
            · refine ⟨fun _ => ⟨q2 + 1, ?_, fun j hj => ?_⟩, (fun h => by simp at h)⟩
              · exact (RdM.refl (unhide HRD10).rd).drew
              · have hj2 : 14 ≤ j := of_decide_eq_true hj
                obtain ⟨m', rfl⟩ : ∃ m', j = m' + 13 := ⟨j - 13, by omega⟩
                trivial
            · refine ⟨?_, ?_, ?_, ?_, ?_, ?_, ?_, ?_, ?_, ?_, ?_, ?_, ?_, ?_, trivial⟩
              -- operation 0
              · rintro L us w ⟨hA, -⟩ hl hdep hbh hup K hK
                have hlast : L 13 = false := hbh 13 (by kernel_rfl)
                have hnl : updL L 0 13 = false := (updL_other _ _ _ (by decide)).trans hlast
                obtain ⟨q2, hst, hcl⟩ := hA hlast
                have HST := hide hst
                have HCL := hide hcl
                have HQL := hide hst.le
                clear hst hcl hA hdep hbh hup hl hlast
                simp only [frmFrom, Nat.reduceAdd, Nat.reduceLeDiff, decide_true, decide_false, Bool.and_true, Bool.and_false, if_true, if_false, Bool.false_eq_true]
                go_simp
                refine hK _ _ ⟨updU us 108 (.pointer (some ⟨W2.heap.size, 1, none⟩)), by simp [frmFrom, updU], fun _ => ?_, (fun h => by rw [hnl] at h; cases h)⟩
                have hs2 : StayD (fun b => b ≠ B) w w := StayD.refl _ _
                refine ⟨q2, ?_, (unhide HCL).put (fun j v h => ModC.stay hs2 (fun _ h => by have := unhide HXZ2; have := h.1; show _ ≠ B; omega) j v h) (rfl) (fun j hj => by omega)⟩
                rw [updL_other _ 0 5 (by decide), updL_other _ 0 9 (by decide), updL_other _ 0 10 (by decide)]
                exact unhide HST
              -- operation 1
              · rintro L us w ⟨hA, -⟩ hl hdep hbh hup K hK
                have hlast : L 13 = false := hbh 13 (by kernel_rfl)
                have hnl : updL L 1 13 = false := (updL_other _ _ _ (by decide)).trans hlast
                obtain ⟨q2, hst, hcl⟩ := hA hlast
                have d0 : us 108 = _ := hcl 0 (hup 0 (by decide) (by kernel_rfl))
                have qm : w.cell? ⟨W2.heap.size, 1, none⟩ = some (.slice (some ⟨fg, 0, none⟩) fs.length fc) := (World.cell?_of_block (w := w10) (a := ⟨W2.heap.size, 1, none⟩) (hst.mv.2 W2.heap.size (by have := unhide HXZ2; omega) (by have := unhide HXZ2; omega))).trans ((unhide HMB10).1 1)
                have HST := hide hst
                have HCL := hide hcl
                have HQL := hide hst.le
                clear hst hcl hA hdep hbh hup hl hlast
                simp only [frmFrom, Nat.reduceAdd, Nat.reduceLeDiff, decide_true, decide_false, Bool.and_true, Bool.and_false, if_true, if_false, Bool.false_eq_true]
                go_simp
                refine hK _ _ ⟨updU us 109 (.slice (some ⟨fg, 0, none⟩) fs.length fc), by simp [frmFrom, updU, d0], fun _ => ?_, (fun h => by rw [hnl] at h; cases h)⟩
                have hs2 : StayD (fun b => b ≠ B) w w := StayD.refl _ _
                refine ⟨q2, ?_, (unhide HCL).put (fun j v h => ModC.stay hs2 (fun _ h => by have := unhide HXZ2; have := h.1; show _ ≠ B; omega) j v h) (rfl) (fun j hj => by omega)⟩
                rw [updL_other _ 1 5 (by decide), updL_other _ 1 9 (by decide), updL_other _ 1 10 (by decide)]
                exact unhide HST
              -- operation 2
              · rintro L us w ⟨hA, -⟩ hl hdep hbh hup K hK
                have hlast : L 13 = false := hbh 13 (by kernel_rfl)
                have hnl : updL L 2 13 = false := (updL_other _ _ _ (by decide)).trans hlast
                obtain ⟨q2, hst, hcl⟩ := hA hlast
                have HST := hide hst
                have HCL := hide hcl
                have HQL := hide hst.le
                clear hst hcl hA hdep hbh hup hl hlast
                simp only [frmFrom, Nat.reduceAdd, Nat.reduceLeDiff, decide_true, decide_false, Bool.and_true, Bool.and_false, if_true, if_false, Bool.false_eq_true]
                go_simp
                refine hK _ _ ⟨updU us 110 (.int .i64 (k : Int)), by simp [frmFrom, updU], fun _ => ?_, (fun h => by rw [hnl] at h; cases h)⟩
                have hs2 : StayD (fun b => b ≠ B) w w := StayD.refl _ _
                refine ⟨q2, ?_, (unhide HCL).put (fun j v h => ModC.stay hs2 (fun _ h => by have := unhide HXZ2; have := h.1; show _ ≠ B; omega) j v h) (rfl) (fun j hj => by omega)⟩
                rw [updL_other _ 2 5 (by decide), updL_other _ 2 9 (by decide), updL_other _ 2 10 (by decide)]
                exact unhide HST
              -- operation 3
              · rintro L us w ⟨hA, -⟩ hl hdep hbh hup K hK
                have hlast : L 13 = false := hbh 13 (by kernel_rfl)
                have hnl : updL L 3 13 = false := (updL_other _ _ _ (by decide)).trans hlast
                obtain ⟨q2, hst, hcl⟩ := hA hlast
                have zq0 : w.cell? ⟨wr.heap.size, 0, none⟩ = some (.string xs) := (World.cell?_of_block (w := w10) (a := ⟨wr.heap.size, 0, none⟩) (hst.mv.2 wr.heap.size (unhide HXZ2).1 (by have := unhide HXZ2; omega))).trans ((unhide HFB10).1 0)
                have zq1 : w.cell? ⟨wr.heap.size, 1, none⟩ = some (.bool pb) := (World.cell?_of_block (w := w10) (a := ⟨wr.heap.size, 1, none⟩) (hst.mv.2 wr.heap.size (unhide HXZ2).1 (by have := unhide HXZ2; omega))).trans ((unhide HFB10).1 1)
                have zq2 : w.cell? ⟨wr.heap.size, 2, none⟩ = some (.slice (some ⟨ab, aoff, none⟩) 1 xc) := (World.cell?_of_block (w := w10) (a := ⟨wr.heap.size, 2, none⟩) (hst.mv.2 wr.heap.size (unhide HXZ2).1 (by have := unhide HXZ2; omega))).trans ((unhide HFB10).1 2)
                have zq3 : w.cell? ⟨wr.heap.size, 3, none⟩ = some (.int .i64 1) := (World.cell?_of_block (w := w10) (a := ⟨wr.heap.size, 3, none⟩) (hst.mv.2 wr.heap.size (unhide HXZ2).1 (by have := unhide HXZ2; omega))).trans ((unhide HFB10).1 3)
                have zq4 : w.cell? ⟨wr.heap.size, 4, none⟩ = some (.int .i64 e0) := (World.cell?_of_block (w := w10) (a := ⟨wr.heap.size, 4, none⟩) (hst.mv.2 wr.heap.size (unhide HXZ2).1 (by have := unhide HXZ2; omega))).trans ((unhide HFB10).1 4)
                have zq5 : w.cell? ⟨wr.heap.size, 5, none⟩ = some (.int .i64 e1) := (World.cell?_of_block (w := w10) (a := ⟨wr.heap.size, 5, none⟩) (hst.mv.2 wr.heap.size (unhide HXZ2).1 (by have := unhide HXZ2; omega))).trans ((unhide HFB10).1 5)
                have zq6 : w.cell? ⟨wr.heap.size, 6, none⟩ = some (.string e2) := (World.cell?_of_block (w := w10) (a := ⟨wr.heap.size, 6, none⟩) (hst.mv.2 wr.heap.size (unhide HXZ2).1 (by have := unhide HXZ2; omega))).trans ((unhide HFB10).1 6)
                have zq7 : w.cell? ⟨wr.heap.size, 7, none⟩ = some (.string e3) := (World.cell?_of_block (w := w10) (a := ⟨wr.heap.size, 7, none⟩) (hst.mv.2 wr.heap.size (unhide HXZ2).1 (by have := unhide HXZ2; omega))).trans ((unhide HFB10).1 7)
                have zq8 : w.cell? ⟨wr.heap.size, 8, none⟩ = some (.slice e4 e5 e6) := (World.cell?_of_block (w := w10) (a := ⟨wr.heap.size, 8, none⟩) (hst.mv.2 wr.heap.size (unhide HXZ2).1 (by have := unhide HXZ2; omega))).trans ((unhide HFB10).1 8)
                have HST := hide hst
                have HCL := hide hcl
                have HQL := hide hst.le
                clear hst hcl hA hdep hbh hup hl hlast
                simp only [frmFrom, Nat.reduceAdd, Nat.reduceLeDiff, decide_true, decide_false, Bool.and_true, Bool.and_false, if_true, if_false, Bool.false_eq_true]
                go_simp
                refine hK _ _ ⟨updU us 111 (.agg #[.string xs, .bool pb, .slice (some ⟨ab, aoff, none⟩) 1 xc, .int .i64 1, .int .i64 e0, .int .i64 e1, .string e2, .string e3, .slice e4 e5 e6]), by simp [frmFrom, updU], fun _ => ?_, (fun h => by rw [hnl] at h; cases h)⟩
                have hs2 : StayD (fun b => b ≠ B) w w := StayD.refl _ _
                refine ⟨q2, ?_, (unhide HCL).put (fun j v h => ModC.stay hs2 (fun _ h => by have := unhide HXZ2; have := h.1; show _ ≠ B; omega) j v h) (rfl) (fun j hj => by omega)⟩
                rw [updL_other _ 3 5 (by decide), updL_other _ 3 9 (by decide), updL_other _ 3 10 (by decide)]
                exact unhide HST
              -- operation 4
              · rintro L us w ⟨hA, -⟩ hl hdep hbh hup K hK
                have hlast : L 13 = false := hbh 13 (by kernel_rfl)
                have hnl : updL L 4 13 = false := (updL_other _ _ _ (by decide)).trans hlast
                obtain ⟨q2, hst, hcl⟩ := hA hlast
                have HST := hide hst
                have HCL := hide hcl
                have HQL := hide hst.le
                clear hst hcl hA hdep hbh hup hl hlast
                simp only [frmFrom, Nat.reduceAdd, Nat.reduceLeDiff, decide_true, decide_false, Bool.and_true, Bool.and_false, if_true, if_false, Bool.false_eq_true]
                go_simp
                refine hK _ _ ⟨updU us 112 (.pointer (some ⟨GB, 0, none⟩)), by simp [frmFrom, updU], fun _ => ?_, (fun h => by rw [hnl] at h; cases h)⟩
                have hs2 : StayD (fun b => b ≠ B) w w := StayD.refl _ _
                refine ⟨q2, ?_, (unhide HCL).put (fun j v h => ModC.stay hs2 (fun _ h => by have := unhide HXZ2; have := h.1; show _ ≠ B; omega) j v h) (rfl) (fun j hj => by omega)⟩
                rw [updL_other _ 4 5 (by decide), updL_other _ 4 9 (by decide), updL_other _ 4 10 (by decide)]
                exact unhide HST
              -- operation 5
              · rintro L us w ⟨hA, -⟩ hl hdep hbh hup K hK
                have hlast : L 13 = false := hbh 13 (by kernel_rfl)
                have hnl : updL L 5 13 = false := (updL_other _ _ _ (by decide)).trans hlast
                obtain ⟨q2, hst, hcl⟩ := hA hlast
                have d4 : us 112 = _ := hcl 4 (hup 4 (by decide) (by kernel_rfl))
                have hc9 : L 9 = false := hbh 9 (by kernel_rfl)
                have hc10 : L 10 = false := hbh 10 (by kernel_rfl)
                rw [hl, hc9, hc10] at hst
                dsimp only [cond] at hst
                have HST := hide hst
                have HCL := hide hcl
                have HQL := hide hst.le
                have HLF := hide (leaf_any B GB a len cap (some ⟨og, 0, none⟩) oc' os 1 none 0 [] w q2 ((unhide HGEN10).step hst) (by have := hst.le; have := unhide HQ9; omega) (fun _ _ => .inl rfl) (by simp) (fun _ h => absurd h List.not_mem_nil))
                simp only [List.length_nil] at HLF
                clear hst hcl hA hdep hbh hup hlast
                simp only [frmFrom, Nat.reduceAdd, Nat.reduceLeDiff, decide_true, decide_false, Bool.and_true, Bool.and_false, if_true, if_false, Bool.false_eq_true]
                go_simp
                refine (unhide HLF).mono ?_
                rintro r w5 ⟨v5, x7, q5, rfl, hke, hwe, hk5⟩
                obtain ⟨a7, b7, c7, y7, s7, l7, t7, rfl⟩ := IsE.five hke.now
                have HKE := hide hke
                have HWE := hide hwe
                clear hke hwe
                go_simp
                refine hK _ _ ⟨updU us 113 (.agg #[.int .i64 a7, .int .i64 b7, .string c7, .string y7, .slice s7 l7 t7]), by simp [frmFrom, updU, d4], fun _ => ?_, (fun h => by rw [hnl] at h; cases h)⟩
                have hs2 : StayD (fun b => b ≠ B) w (w5) := hk5.mv.stay (fun _ h => h)
                refine ⟨q5, ?_, (unhide HCL).put (fun j v h => ModC.stay hs2 (fun _ h => by have := unhide HXZ2; have := h.1; show _ ≠ B; omega) j v h) (⟨x7, (unhide HKE).less (fun b _ h => by have h9 : w.heap.size ≤ b := h; have := (unhide HST).size; have := unhide HXZ2; exact ⟨by omega, by omega⟩), unhide HWE⟩) (fun j hj => by omega)⟩
                rw [updL_same, updL_other _ 5 9 (by decide), hc9, updL_other _ 5 10 (by decide), hc10]
                exact ((unhide HST).trans hk5).more (by (try dsimp only [cond]); omega)
              -- operation 6
              · rintro L us w ⟨hA, -⟩ hl hdep hbh hup K hK
                have hlast : L 13 = false := hbh 13 (by kernel_rfl)
                have hnl : updL L 6 13 = false := (updL_other _ _ _ (by decide)).trans hlast
                obtain ⟨q2, hst, hcl⟩ := hA hlast
                have HST := hide hst
                have HCL := hide hcl
                have HQL := hide hst.le
                clear hst hcl hA hdep hbh hup hl hlast
                simp only [frmFrom, Nat.reduceAdd, Nat.reduceLeDiff, decide_true, decide_false, Bool.and_true, Bool.and_false, if_true, if_false, Bool.false_eq_true]
                go_simp
                refine hK _ _ ⟨updU us 114 (.pointer (some ⟨GB, 0, none⟩)), by simp [frmFrom, updU], fun _ => ?_, (fun h => by rw [hnl] at h; cases h)⟩
                have hs2 : StayD (fun b => b ≠ B) w w := StayD.refl _ _
                refine ⟨q2, ?_, (unhide HCL).put (fun j v h => ModC.stay hs2 (fun _ h => by have := unhide HXZ2; have := h.1; show _ ≠ B; omega) j v h) (rfl) (fun j hj => by omega)⟩
                rw [updL_other _ 6 5 (by decide), updL_other _ 6 9 (by decide), updL_other _ 6 10 (by decide)]
                exact unhide HST
              -- operation 7
              · rintro L us w ⟨hA, -⟩ hl hdep hbh hup K hK
                have hlast : L 13 = false := hbh 13 (by kernel_rfl)
                have hnl : updL L 7 13 = false := (updL_other _ _ _ (by decide)).trans hlast
                obtain ⟨q2, hst, hcl⟩ := hA hlast
                have HST := hide hst
                have HCL := hide hcl
                have HQL := hide hst.le
                clear hst hcl hA hdep hbh hup hl hlast
                simp only [frmFrom, Nat.reduceAdd, Nat.reduceLeDiff, decide_true, decide_false, Bool.and_true, Bool.and_false, if_true, if_false, Bool.false_eq_true]
                go_simp
                refine hK _ _ ⟨updU us 115 (.pointer (some ⟨wr.heap.size, 2, none⟩)), by simp [frmFrom, updU], fun _ => ?_, (fun h => by rw [hnl] at h; cases h)⟩
                have hs2 : StayD (fun b => b ≠ B) w w := StayD.refl _ _
                refine ⟨q2, ?_, (unhide HCL).put (fun j v h => ModC.stay hs2 (fun _ h => by have := unhide HXZ2; have := h.1; show _ ≠ B; omega) j v h) (rfl) (fun j hj => by omega)⟩
                rw [updL_other _ 7 5 (by decide), updL_other _ 7 9 (by decide), updL_other _ 7 10 (by decide)]
                exact unhide HST
              -- operation 8
              · rintro L us w ⟨hA, -⟩ hl hdep hbh hup K hK
                have hlast : L 13 = false := hbh 13 (by kernel_rfl)
                have hnl : updL L 8 13 = false := (updL_other _ _ _ (by decide)).trans hlast
                obtain ⟨q2, hst, hcl⟩ := hA hlast
                have d7 : us 115 = _ := hcl 7 (hup 7 (by decide) (by kernel_rfl))
                have zq2 : w.cell? ⟨wr.heap.size, 2, none⟩ = some (.slice (some ⟨ab, aoff, none⟩) 1 xc) := (World.cell?_of_block (w := w10) (a := ⟨wr.heap.size, 2, none⟩) (hst.mv.2 wr.heap.size (unhide HXZ2).1 (by have := unhide HXZ2; omega))).trans ((unhide HFB10).1 2)
                have HST := hide hst
                have HCL := hide hcl
                have HQL := hide hst.le
                clear hst hcl hA hdep hbh hup hl hlast
                simp only [frmFrom, Nat.reduceAdd, Nat.reduceLeDiff, decide_true, decide_false, Bool.and_true, Bool.and_false, if_true, if_false, Bool.false_eq_true]
                go_simp
                refine hK _ _ ⟨updU us 116 (.slice (some ⟨ab, aoff, none⟩) 1 xc), by simp [frmFrom, updU, d7], fun _ => ?_, (fun h => by rw [hnl] at h; cases h)⟩
                have hs2 : StayD (fun b => b ≠ B) w w := StayD.refl _ _
                refine ⟨q2, ?_, (unhide HCL).put (fun j v h => ModC.stay hs2 (fun _ h => by have := unhide HXZ2; have := h.1; show _ ≠ B; omega) j v h) (rfl) (fun j hj => by omega)⟩
                rw [updL_other _ 8 5 (by decide), updL_other _ 8 9 (by decide), updL_other _ 8 10 (by decide)]
                exact unhide HST
              -- operation 9
              · rintro L us w ⟨hA, -⟩ hl hdep hbh hup K hK
                have hlast : L 13 = false := hbh 13 (by kernel_rfl)
                have hnl : updL L 9 13 = false := (updL_other _ _ _ (by decide)).trans hlast
                obtain ⟨q2, hst, hcl⟩ := hA hlast
                have d6 : us 114 = _ := hcl 6 (hup 6 (by decide) (by kernel_rfl))
                have d8 : us 116 = _ := hcl 8 (hup 8 (by decide) (by kernel_rfl))
                have hc5 : L 5 = true := hup 5 (by decide) (by kernel_rfl)
                have hc10 : L 10 = false := hbh 10 (by kernel_rfl)
                rw [hl, hc5, hc10] at hst
                dsimp only [cond] at hst
                have HST := hide hst
                have HCL := hide hcl
                have HQL := hide hst.le
                have HLF := hide (leaf_any B GB a len cap (some ⟨og, 0, none⟩) oc' os 1 (some ⟨ab, aoff, none⟩) xc [v0] w q2 ((unhide HGEN10).step hst) (by have := hst.le; have := unhide HQ9; omega) (((unhide HVA10).less (fun b _ h => by have := unhide HXZ2; have := h.1.1.1; show b ≠ B; omega)).stay (hst.mv.stay (fun _ h => h))) (by simp) ((unhide HVL).2))
                simp only [List.length_singleton] at HLF
                clear hst hcl hA hdep hbh hup hlast
                simp only [frmFrom, Nat.reduceAdd, Nat.reduceLeDiff, decide_true, decide_false, Bool.and_true, Bool.and_false, if_true, if_false, Bool.false_eq_true]
                go_simp
                refine (unhide HLF).mono ?_
                rintro r w5 ⟨v5, x7, q5, rfl, hke, hwe, hk5⟩
                obtain ⟨a7, b7, c7, y7, s7, l7, t7, rfl⟩ := IsE.five hke.now
                have HKE := hide hke
                have HWE := hide hwe
                clear hke hwe
                go_simp
                refine hK _ _ ⟨updU us 117 (.agg #[.int .i64 a7, .int .i64 b7, .string c7, .string y7, .slice s7 l7 t7]), by simp [frmFrom, updU, d6, d8], fun _ => ?_, (fun h => by rw [hnl] at h; cases h)⟩
                have hs2 : StayD (fun b => b ≠ B) w (w5) := hk5.mv.stay (fun _ h => h)
                refine ⟨q5, ?_, (unhide HCL).put (fun j v h => ModC.stay hs2 (fun _ h => by have := unhide HXZ2; have := h.1; show _ ≠ B; omega) j v h) (⟨x7, (unhide HKE).less (fun b _ h => by have h9 : w.heap.size ≤ b := h; have := (unhide HST).size; have := unhide HXZ2; exact ⟨by omega, by omega⟩), unhide HWE⟩) (fun j hj => by omega)⟩
                rw [updL_same, updL_other _ 9 5 (by decide), hc5, updL_other _ 9 10 (by decide), hc10]
                exact ((unhide HST).trans hk5).more (by (try dsimp only [cond]); omega)
              -- operation 10
              · rintro L us w ⟨hA, -⟩ hl hdep hbh hup K hK
                have hlast : L 13 = false := hbh 13 (by kernel_rfl)
                have hnl : updL L 10 13 = false := (updL_other _ _ _ (by decide)).trans hlast
                obtain ⟨q2, hst, hcl⟩ := hA hlast
                have d3 : us 111 = _ := hcl 3 (hup 3 (by decide) (by kernel_rfl))
                obtain ⟨z5x, k5x, n5x⟩ := hcl 5 (hup 5 (by decide) (by kernel_rfl))
                obtain ⟨g0, g1, g2, g3, g4, g5, g6, d5⟩ := IsE.five k5x.now
                have d5 : us 113 = _ := d5
                have k5x := d5 ▸ k5x
                obtain ⟨z9x, k9x, n9x⟩ := hcl 9 (hup 9 (by decide) (by kernel_rfl))
                obtain ⟨h0, h1, h2, h3, h4, h5, h6, d9⟩ := IsE.five k9x.now
                have d9 : us 117 = _ := d9
                have k9x := d9 ▸ k9x
                have hc5 : L 5 = true := hup 5 (by decide) (by kernel_rfl)
                have hc9 : L 9 = true := hup 9 (by decide) (by kernel_rfl)
                rw [hl, hc5, hc9] at hst
                dsimp only [cond] at hst
                have HST := hide hst
                have HCL := hide hcl
                have HQL := hide hst.le
                have HN59 := hide (And.intro n5x n9x)
                have HLP := hide (l22Loop_any w10.heap.size xs pb (some ⟨ab, aoff, none⟩) xc v0 [] 1 e0 e1 e2 e3 e4 e5 e6 _ _ z5x z9x w hst.size (((unhide HVA10).stay (hst.mv.stay (fun b h => by have := unhide HXZ2; have := h.1.1.1; omega))).now) (by have := (unhide HXV).1; have := (unhide HY).1; rw [(unhide HXV).1]; exact this) ((unhide HVL).2 v0 (by simp)) (k5x.less (fun b _ h => h.1)) (k9x.less (fun b _ h => h.1)))
                simp only [List.length_nil, Nat.zero_add] at HLP
                clear hst hcl hA hdep hbh hup hlast
                simp only [frmFrom, Nat.reduceAdd, Nat.reduceLeDiff, decide_true, decide_false, Bool.and_true, Bool.and_false, if_true, if_false, Bool.false_eq_true]
                go_simp
                refine (unhide HLP).mono ?_
                rintro r w5 ⟨v5, x7, rfl, hke, hwe, hb5⟩
                obtain ⟨a7, b7, c7, y7, s7, l7, t7, rfl⟩ := IsE.five hke.now
                have HKE := hide hke
                have HWE := hide hwe
                clear hke hwe
                have hk5 : RdM B a len cap 0 w w5 q2 q2 := (RdM.refl (unhide HST).rd).below (by have := (unhide HST).size; have := unhide HXZ2; omega) hb5
                go_simp
                refine hK _ _ ⟨updU us 118 (.agg #[.int .i64 a7, .int .i64 b7, .string c7, .string y7, .slice s7 l7 t7]), by simp [frmFrom, updU, d3, d5, d9], fun _ => ?_, (fun h => by rw [hnl] at h; cases h)⟩
                have hs2 : StayD (fun b => b ≠ B) w (w5) := hk5.mv.stay (fun _ h => h)
                refine ⟨q2, ?_, (unhide HCL).put (fun j v h => ModC.stay hs2 (fun _ h => by have := unhide HXZ2; have := h.1; show _ ≠ B; omega) j v h) (⟨x7, (unhide HKE).less (fun b _ h => by have := unhide HXZ2; exact ⟨h.1, by have := h.1; omega⟩), by have := unhide HWE; have := unhide HN59; omega⟩) (fun j hj => by omega)⟩
                rw [updL_same, updL_other _ 10 5 (by decide), hc5, updL_other _ 10 9 (by decide), hc9]
                exact ((unhide HST).trans hk5).more (by (try dsimp only [cond]); omega)
              -- operation 11
              · rintro L us w ⟨hA, -⟩ hl hdep hbh hup K hK
                have hlast : L 13 = false := hbh 13 (by kernel_rfl)
                have hnl : updL L 11 13 = false := (updL_other _ _ _ (by decide)).trans hlast
                obtain ⟨q2, hst, hcl⟩ := hA hlast
                have d1 : us 109 = _ := hcl 1 (hup 1 (by decide) (by kernel_rfl))
                have d2 : us 110 = _ := hcl 2 (hup 2 (by decide) (by kernel_rfl))
                have HST := hide hst
                have HCL := hide hcl
                have HQL := hide hst.le
                clear hst hcl hA hdep hbh hup hl hlast
                simp only [frmFrom, Nat.reduceAdd, Nat.reduceLeDiff, decide_true, decide_false, Bool.and_true, Bool.and_false, if_true, if_false, Bool.false_eq_true]
                go_simp
                refine hK _ _ ⟨updU us 119 (.pointer (some ⟨fg, k * 9, none⟩)), by simp [frmFrom, updU, d1, d2], fun _ => ?_, (fun h => by rw [hnl] at h; cases h)⟩
                have hs2 : StayD (fun b => b ≠ B) w w := StayD.refl _ _
                refine ⟨q2, ?_, (unhide HCL).put (fun j v h => ModC.stay hs2 (fun _ h => by have := unhide HXZ2; have := h.1; show _ ≠ B; omega) j v h) (rfl) (fun j hj => by omega)⟩
                rw [updL_other _ 11 5 (by decide), updL_other _ 11 9 (by decide), updL_other _ 11 10 (by decide)]
                exact unhide HST
              -- operation 12
              · rintro L us w ⟨hA, -⟩ hl hdep hbh hup K hK
                have hlast : L 13 = false := hbh 13 (by kernel_rfl)
                have hnl : updL L 12 13 = false := (updL_other _ _ _ (by decide)).trans hlast
                obtain ⟨q2, hst, hcl⟩ := hA hlast
                have d11 : us 119 = _ := hcl 11 (hup 11 (by decide) (by kernel_rfl))
                have HST := hide hst
                have HCL := hide hcl
                have HQL := hide hst.le
                clear hst hcl hA hdep hbh hup hl hlast
                simp only [frmFrom, Nat.reduceAdd, Nat.reduceLeDiff, decide_true, decide_false, Bool.and_true, Bool.and_false, if_true, if_false, Bool.false_eq_true]
                go_simp
                refine hK _ _ ⟨updU us 120 (.pointer (some ⟨fg, k * 9 + 4, none⟩)), by simp [frmFrom, updU, d11], fun _ => ?_, (fun h => by rw [hnl] at h; cases h)⟩
                have hs2 : StayD (fun b => b ≠ B) w w := StayD.refl _ _
                refine ⟨q2, ?_, (unhide HCL).put (fun j v h => ModC.stay hs2 (fun _ h => by have := unhide HXZ2; have := h.1; show _ ≠ B; omega) j v h) (rfl) (fun j hj => by omega)⟩
                rw [updL_other _ 12 5 (by decide), updL_other _ 12 9 (by decide), updL_other _ 12 10 (by decide)]
                exact unhide HST
              -- operation 13
              · rintro L us w ⟨hA, -⟩ hl hdep hbh hup K hK
                obtain ⟨q3, hst, hcl⟩ := hA hl
                have hc5 : L 5 = true := hup 5 (by decide) (by kernel_rfl)
                have hc9 : L 9 = true := hup 9 (by decide) (by kernel_rfl)
                have hc10 : L 10 = true := hup 10 (by decide) (by kernel_rfl)
                rw [hc5, hc9, hc10] at hst
                dsimp only [cond] at hst
                obtain ⟨x6, k6, n6⟩ := hcl 10 (hup 10 (by decide) (by kernel_rfl))
                obtain ⟨a6, b6, c6, y6, s6, l6, t6, d11⟩ := IsE.five k6.now
                have d11 : us 118 = _ := d11
                have k6 : KeepE (fun b => w10.heap.size ≤ b ∧ b ≠ 0) 5 w (.agg #[.int .i64 a6, .int .i64 b6, .string c6, .string y6, .slice s6 l6 t6]) x6 := d11 ▸ k6
                have d13 : us 120 = _ := hcl 12 (hup 12 (by decide) (by kernel_rfl))
                have hx := unhide HXZ2
                have hFw := (unhide HF10).staySub (hst.mv.stay (fun b h => by have := h.1.1; omega)) (fun g hg => by have : fg = g := Option.some.inj hg; exact ⟨⟨by omega, by omega⟩, fun e => by have e' := Option.some.inj e; omega⟩)
                obtain ⟨hkg, hxp⟩ := List.getElem?_eq_some_iff.1 (unhide HXP2)
                have hrow := hFw.row
                rw [unhide HGL2] at hrow
                have hC9 : gs2[k].2 = [.string xs, .bool pb, .slice (some ⟨ab, aoff, none⟩) [v0].length xc, .int .i64 1, .int .i64 a5, .int .i64 b5, .string c5, .string y5, .slice s5 l5 t5] := by rw [hxp]; first | done | exact unhide HC02
                have o0 : w.cell? ⟨fg, k * 9 + 4, none⟩ = some (.int .i64 a5) := (hFw.cell k hkg 4 (by omega)).trans (by rw [hC9]; rfl)
                have f0 : w.frozen? ⟨fg, k * 9 + 4, none⟩ = false := hrow.frozenAt (k * 9 + 4)
                have o1 : w.cell? ⟨fg, k * 9 + 4 + 1, none⟩ = some (.int .i64 b5) := (hFw.cell k hkg 5 (by omega)).trans (by rw [hC9]; rfl)
                have f1 : w.frozen? ⟨fg, k * 9 + 4 + 1, none⟩ = false := hrow.frozenAt (k * 9 + 5)
                have o2 : w.cell? ⟨fg, k * 9 + 4 + 2, none⟩ = some (.string c5) := (hFw.cell k hkg 6 (by omega)).trans (by rw [hC9]; rfl)
                have f2 : w.frozen? ⟨fg, k * 9 + 4 + 2, none⟩ = false := hrow.frozenAt (k * 9 + 6)
                have o3 : w.cell? ⟨fg, k * 9 + 4 + 3, none⟩ = some (.string y5) := (hFw.cell k hkg 7 (by omega)).trans (by rw [hC9]; rfl)
                have f3 : w.frozen? ⟨fg, k * 9 + 4 + 3, none⟩ = false := hrow.frozenAt (k * 9 + 7)
                have o4 : w.cell? ⟨fg, k * 9 + 4 + 4, none⟩ = some (.slice s5 l5 t5) := (hFw.cell k hkg 8 (by omega)).trans (by rw [hC9]; rfl)
                have f4 : w.frozen? ⟨fg, k * 9 + 4 + 4, none⟩ = false := hrow.frozenAt (k * 9 + 8)
                have r1 := hFw.raw.put k hkg 4 (by omega) (.int .i64 a6) rfl (⟨xp.1.name, xp.1.pub, [v0], xp.1.type, x6⟩ : TF) _ hC9
                have r2 := r1.put k (by simpa using hkg) 5 (by omega) (.int .i64 b6) rfl (⟨xp.1.name, xp.1.pub, [v0], xp.1.type, x6⟩ : TF) [.string xs, .bool pb, .slice (some ⟨ab, aoff, none⟩) [v0].length xc, .int .i64 1, .int .i64 a6, .int .i64 b5, .string c5, .string y5, .slice s5 l5 t5] (by simp)
                simp only [List.set_set] at r2
                have r3 := r2.put k (by simpa using hkg) 6 (by omega) (.string c6) rfl (⟨xp.1.name, xp.1.pub, [v0], xp.1.type, x6⟩ : TF) [.string xs, .bool pb, .slice (some ⟨ab, aoff, none⟩) [v0].length xc, .int .i64 1, .int .i64 a6, .int .i64 b6, .string c5, .string y5, .slice s5 l5 t5] (by simp)
                simp only [List.set_set] at r3
                have r4 := r3.put k (by simpa using hkg) 7 (by omega) (.string y6) rfl (⟨xp.1.name, xp.1.pub, [v0], xp.1.type, x6⟩ : TF) [.string xs, .bool pb, .slice (some ⟨ab, aoff, none⟩) [v0].length xc, .int .i64 1, .int .i64 a6, .int .i64 b6, .string c6, .string y5, .slice s5 l5 t5] (by simp)
                simp only [List.set_set] at r4
                have r5 := r4.put k (by simpa using hkg) 8 (by omega) (.slice s6 l6 t6) rfl (⟨xp.1.name, xp.1.pub, [v0], xp.1.type, x6⟩ : TF) [.string xs, .bool pb, .slice (some ⟨ab, aoff, none⟩) [v0].length xc, .int .i64 1, .int .i64 a6, .int .i64 b6, .string c6, .string y6, .slice s5 l5 t5] (by simp)
                simp only [List.set_set] at r5
                have hs0 : StayD (fun b => b ≠ fg) w _ := ((((((StayD.refl (fun b => b ≠ fg) w).set fg (k * 9 + 4) (.int .i64 a6) (fun _ h => h rfl)).set fg (k * 9 + 5) (.int .i64 b6) (fun _ h => h rfl)).set fg (k * 9 + 6) (.string c6) (fun _ h => h rfl)).set fg (k * 9 + 7) (.string y6) (fun _ h => h rfl)).set fg (k * 9 + 8) (.slice s6 l6 t6) (fun _ h => h rfl))
                have hrd := (unhide HRD10).trans hst
                have hrd5 := (((((hrd.set (by omega) fg (k * 9 + 4) (.int .i64 a6) (by omega)).set (by omega) fg (k * 9 + 5) (.int .i64 b6) (by omega)).set (by omega) fg (k * 9 + 6) (.string c6) (by omega)).set (by omega) fg (k * 9 + 7) (.string y6) (by omega)).set (by omega) fg (k * 9 + 8) (.slice s6 l6 t6) (by omega))
                have hxa := (((unhide HVA10).stay (hst.mv.stay (fun b h => by have := h.1.1.1; omega))).stay (hs0.less (fun b _ h e => h.2 (by rw [e]))))
                have hxe := (k6.stay (hs0.less (fun b _ h e => by have := h.1; omega))).less (S' := OffD (fun b => (w0.heap.size < b ∧ b ≠ W2.heap.size) ∧ some b ≠ some og) (some fg)) (fun b _ h => by have h9 := h.1; exact ⟨⟨⟨by omega, by omega⟩, fun e => by have := Option.some.inj e; omega⟩, fun e => by have := Option.some.inj e; omega⟩)
                have hnx := (unhide HXV)
                have htn := hFw.turned hs0 k (⟨xp.1.name, xp.1.pub, [v0], xp.1.type, x6⟩ : TF) _ r5 (fun W hW => ⟨_, _, _, _, _, _, _, _, _, rfl, ⟨(some ⟨ab, aoff, none⟩), xc, _, _, _, _, _, by rw [hnx.1, hnx.2.1, ← hnx.2.2.1], ⟨by unfold maxLen; have := hnx.2.2.2.2.1; show xp.1.name.size ≤ _; omega, by unfold maxLen; have := (unhide HVL).1; show [v0].length ≤ _; omega⟩, hxa W hW, (hxe W hW).ups (by omega)⟩⟩)
                have hs1 : StayD (fun b => b ≠ B ∧ b ≠ fg) w10 _ := (hst.mv.stay (fun b h => h.1)).trans (hs0.less (fun b _ h => h.2))
                have HX := hide (And.intro hrd5 (And.intro n6 (And.intro hs1 htn)))
                clear hst hcl hA hdep hbh hup hl k6 hx hFw hrow hkg hxp hC9 r1 r2 r3 r4 r5 hs0 hrd hrd5 hxa hxe hnx htn hs1 n6
                simp only [frmFrom, Nat.reduceAdd, Nat.reduceLeDiff, decide_true, decide_false, Bool.and_true, Bool.and_false, if_true, if_false, Bool.false_eq_true]
                go_simp
                refine hK _ _ ⟨us, by simp [frmFrom, d11, d13], (fun h => by rw [updL_same] at h; cases h), fun _ => ?_⟩
                exact ⟨q3, a6, b6, c6, y6, s6, l6, t6, x6, unhide HX⟩
            · rintro L us w11 ⟨-, hB2⟩ hall
              obtain ⟨q3, a6, b6, c6, y6, s6, l6, t6, x6, hrd11, hx6, hs11, hF11⟩ := hB2 (hall 13 (by decide))
              rw [← unhide HGS, List.set_set] at hF11
              have HRD11 := hide hrd11
              have HX6 := hide hx6
              have HS11 := hide ((unhide HS10).trans hs11)
              have HF11 := hide hF11
              clear hB2 hall hrd11 hx6 hs11 hF11
              simp only [frmFrom, Nat.reduceAdd, Nat.reduceLeDiff, decide_true, decide_false, Bool.and_true, Bool.and_false, if_true, if_false, Bool.false_eq_true]
              go_wp2
              go_roundw
              case rel =>
                (repeat apply Exists.intro)
                refine ⟨?_, rfl⟩
                have hx := unhide HXZ
                have hLs := unhide HC
                have hst : StayD (fun b => b ≠ B ∧ b ≠ fg) W8 w11 := unhide HS11
                have hsz := hst.1
                have hgs := unhide HGL
                refine ⟨k + 1, q3, gs.set k ((⟨xp.1.name, xp.1.pub, [v0], xp.1.type, x6⟩ : TF), [.string xs, .bool pb, .slice (some ⟨ab, aoff, none⟩) [v0].length xc, .int .i64 1, .int .i64 a6, .int .i64 b6, .string c6, .string y6, .slice s6 l6 t6]), by go_num, by omega, hide (by rw [List.length_set]; exact hgs), hide ?_, hide ((unhide HMB8).ofb (hst.2 W2.heap.size (by omega) ⟨by omega, by omega⟩)), hide ((unhide HGB8).ofb (hst.2 GB (by omega) ⟨by omega, by omega⟩)), hide ?_, hide ?_, hide ?_, hide ?_, hide (by omega)⟩
                · exact (unhide HRD11).more (by omega)
                · exact unhide HF11
                · exact (unhide HO8).staySub (hst.less (fun b _ h => ⟨h.1.1, fun e => h.2 (by rw [e]; rfl)⟩)) (fun g hg => by have : og = g := Option.some.inj hg; exact ⟨⟨by omega, by omega, by omega⟩, fun e => by have e' : g = fg := Option.some.inj e; omega⟩)
                · exact (unhide HTT8).trans ((hst.less (fun b _ h => h)).less (fun b _ h => by have := unhide HGU; rcases h with h | h <;> exact ⟨by omega, by omega⟩))
                · intro z hz
                  rcases List.mem_or_eq_of_mem_set hz with hz | rfl
                  · exact unhide HFP z hz
                  · exact ⟨(unhide HY : FOk _), by have := unhide HX6; show x6.wt ≤ 4000; omega⟩
              case measure => simp [intOf]; omega
        · have hq3 : q' ≤ p + 40 + 2600 * k := by have := (unhide HRD).le; omega
          have HPK3 := hide (pick_rd B a len cap q' 4 wr (unhide HRD).rd (by omega) (by omega))
          have hk3 : k ≤ 3 := by omega
          go_wp2_with fail
          clear qm
          refine (unhide HPK3).mono ?_
          rintro r w14 ⟨i4, rfl, -, -, hk14, -⟩
          have hLs := unhide HC
          have zz := unhide HZZ
          have hgz := unhide HGZ
          have hgu := unhide HGU
          have HR14 := hide (((unhide HRD).trans hk14).more (show 40 + 2600 * k + 1 ≤ 8000 by omega))
          have HM14 := hide ((unhide HMB).ofb (hk14.mv.2 W2.heap.size (by omega) (by omega)))
          have HG14 := hide ((unhide HGB).ofb (hk14.mv.2 GB (by omega) (by omega)))
          have HF14 := hide ((unhide HFF).staySub (hk14.mv.stay (fun b h => by have := h.1.1; omega)) (fun g hg => by have := hLs.2.2.2.2 g hg; exact ⟨⟨by omega, by omega⟩, fun e => hLs.2.1 (hg.trans e)⟩))
          have hO14 := (unhide HOO).staySub (hk14.mv.stay (fun b h => h.1.1)) (fun g hg => by have : og = g := Option.some.inj hg; exact ⟨⟨by omega, by omega, by omega⟩, fun e => hLs.2.1 (e.symm.trans (by rw [this]))⟩)
          have HT14 := hide ((unhide HTT).trans (hk14.mv.stay (fun b h => by rcases h with h | h <;> omega)))
          have hz14 := hk14.size
          have HZ14 : Hid (GB < w14.heap.size ∧ B < w14.heap.size ∧ B < w0.heap.size ∧ w0.heap.size + 2 ≤ W2.heap.size ∧ W2.heap.size < GB ∧ og < GB ∧ W2.heap.size + 1 ≤ og) := hide (by omega)
          have HGEN : Hid (GenD B GB a len cap (some ⟨og, 0, none⟩) oc' os w14 (q' + 1)) := hide ⟨(unhide HR14).rd, (unhide HG14).1 0, (unhide HG14).1 1, by omega, by omega, by omega, (hO14.readsSub (fun g hg => by have : og = g := Option.some.inj hg; exact ⟨⟨by omega, by omega, by omega⟩, fun e => hLs.2.1 (e.symm.trans (by rw [this]))⟩)).less (fun b _ h => h.1.1)⟩
          have HP14 := HFP
          have HGL14 := HGL
          clear hk14 hO14 hz14 HPK3 HRD HMB HGB HFF HOO HTT HGZ zz hgz hgu hLs HFP HGL
          go_upto_if 123 with fail
          go_cut [] from 123 to 132 (fun wc => ∃ (q3 : Nat) (ma : Option Addr) (mc : Nat) (mn : List TE), Hid (RdM B a len cap 30000 w0 wc p q3) ∧ Hid (Blk wc W2.heap.size [.slice (some ⟨gu, 0, none⟩) uses.length cu, .slice fa fs.length fc, .slice ma mn.length mc]) ∧ Hid (OwnD (EltF 7) 9 33 (fun b => (w0.heap.size < b ∧ b ≠ W2.heap.size) ∧ some b ≠ some og) (W2.heap.size + 1) wc (.slice fa fs.length fc) gs) ∧ Hid (StayD (fun b => b = gu ∨ b = w0.heap.size) W5 wc) ∧ Hid (∀ x ∈ gs, FOk x.1 ∧ x.1.body.wt ≤ 4000) ∧ Hid (GB < wc.heap.size) ∧ Hid (KpD (fun b => GB < b) wc (fun W => IsKids (IsE W 0 W.heap.size 7) W 0 W.heap.size ma mn)) ∧ Hid (mn.length ≤ 1 ∧ wtL mn ≤ 20000))
          case first =>
            by_cases h4 : 0 < i4
            · have HPK4 := hide (pick_rd B a len cap (q' + 1) 3 w14 (unhide HR14).rd (by omega) (by omega))
              have m2 := (unhide HM14).cellAt (i := 2) rfl
              have z2 := (unhide HM14).2 2
              go_wp2_with fail
              refine (unhide HPK4).mono ?_
              rintro r w15 ⟨i7, rfl, j0, j1, hk15, -⟩
              have j2 := j1 (by omega)
              obtain ⟨n9, rfl⟩ := Int.eq_ofNat_of_zero_le j0
              have HPW : Hid (20 * 5 ^ (n9 + 2) ≤ 12500 ∧ 24 * 5 ^ (n9 + 2) ≤ 15000) := hide (by have := Nat.pow_le_pow_right (show 0 < 5 by omega) (show n9 + 2 ≤ 4 by omega); omega)
              have HEX := hide (expr_any (n9 + 2) B GB a len cap (some ⟨og, 0, none⟩) oc' os 1 none 0 [] w15 (q' + 1 + 1) ((unhide HGEN).step hk15) (unhide HSO) (by have := (unhide HPW).1; omega) (fun _ _ => .inl rfl) (by simp only [List.length_nil]; omega) (fun _ h => absurd h List.not_mem_nil))
              simp only [List.length_nil] at HEX
              rw [show ((n9 + 2 : Nat) : Int) = 2 + (n9 : Int) by omega] at HEX
              have hwr : IntKind.i64.wrap (2 + (n9 : Int)) = 2 + (n9 : Int) := by rw [IntKind.wrap_i64]; omega
              have HR15 := hide ((unhide HR14).trans hk15)
              have HM15 := hide ((unhide HM14).ofb (hk15.mv.2 W2.heap.size (by have := unhide HZ14; omega) (by have := unhide HZ14; omega)))
              have hs15 : ∀ S : Nat → Prop, (∀ b, S b → b ≠ B) → StayD S w14 w15 := fun S h => hk15.mv.stay h
              have HS15 := hide hs15
              have HZ15 := hide hk15.size
              clear j0 j1 hk15 HPK4 m2 z2 hs15
              go_wp2_with fail
              refine (unhide HEX).mono ?_
              rintro r w5 ⟨v5, x5, q5, rfl, hke, hwe, hk5⟩
              obtain ⟨a5, b5, c5, y5, s5, l5, t5, rfl⟩ := IsE.five hke.now
              have zx := unhide HZ14
              have hz15 := unhide HZ15
              have hz5 := hk5.size
              have hmb := (unhide HM15).ofb (hk5.mv.2 W2.heap.size (by omega) (by omega))
              have m2 := hmb.cellAt (i := 2) rfl
              have z2 := hmb.2 2
              have hml : W2.heap.size < w5.heap.size := by omega
              obtain ⟨WS, hWS⟩ : ∃ WS, WS = w5.setCell ⟨W2.heap.size, 2, none⟩ (.slice (some ⟨w5.heap.size + 1, 0, none⟩) 1 1) := ⟨_, rfl⟩
              have hs5 : WS.heap.size = w5.heap.size := by rw [hWS]; simp [World.setCell]
              have hset : ∀ S : Nat → Prop, ¬ S W2.heap.size → StayD S w5 WS := fun S h => by rw [hWS]; exact (StayD.refl S w5).set W2.heap.size 2 _ (fun _ => h)
              have hke2 : KeepE (fun b => GB < b) 6 WS (.agg #[.int .i64 a5, .int .i64 b5, .string c5, .string y5, .slice s5 l5 t5]) x5 := ((hke.less (fun b _ h => by have h9 : w15.heap.size ≤ b := h; omega)) |>.imp (fun W hW => hW.ups (by omega))).stay (hset _ (by omega))
              have hA := lit_alloc (S := fun b => GB < b) (w := WS) [(x5, [.int .i64 a5, .int .i64 b5, .string c5, .string y5, .slice s5 l5 t5])] 31 (by show GB < WS.heap.size; omega) (by
                intro y hy
                rw [List.mem_singleton] at hy
                subst hy
                refine ⟨rfl, fun u hu => ?_⟩
                simp only [List.mem_cons, List.not_mem_nil, or_false] at hu
                rcases hu with rfl | rfl | rfl | rfl | rfl <;> rfl) (by
                intro y hy
                rw [List.mem_singleton] at hy
                subst hy
                exact hke2.imp (fun W hW => EltE.of hW))
              rw [hs5] at hA
              have hN := keepE_node (k := 4) (m := 0) (nm := ⟨#[112, 114, 105, 110, 116]⟩) (md := ⟨#[]⟩) (cap := 1) (n := 1) hA rfl (by omega) (by decide) (by decide)
              have hA2 := lit_alloc (S := fun b => GB < b) (w := (WS.alloc (.cells #[.int .i64 a5, .int .i64 b5, .string c5, .string y5, .slice s5 l5 t5] 31))) [(_, [.int .i64 4, .int .i64 0, .string ⟨#[112, 114, 105, 110, 116]⟩, .string ⟨#[]⟩, .slice (some ⟨w5.heap.size, 0, none⟩) 1 1])] 31 (by show GB < _; rw [alloc_size]; omega) (by
                intro y hy
                rw [List.mem_singleton] at hy
                subst hy
                refine ⟨rfl, fun u hu => ?_⟩
                simp only [List.mem_cons, List.not_mem_nil, or_false] at hu
                rcases hu with rfl | rfl | rfl | rfl | rfl <;> rfl) (by
                intro y hy
                rw [List.mem_singleton] at hy
                subst hy
                exact hN.imp (fun W hW => EltE.of hW))
              rw [alloc_size, hs5] at hA2
              have hB5 : Below WS.heap.size WS ((WS.alloc (.cells #[.int .i64 a5, .int .i64 b5, .string c5, .string y5, .slice s5 l5 t5] 31)).alloc (.cells #[.int .i64 4, .int .i64 0, .string ⟨#[112, 114, 105, 110, 116]⟩, .string ⟨#[]⟩, .slice (some ⟨w5.heap.size, 0, none⟩) 1 1] 31)) := ((Below.refl _ _).alloc (Nat.le_refl _) _).alloc (by simp) _
              have hR7 := ((((unhide HR15).trans hk5).set (by omega) W2.heap.size 2 (.slice (some ⟨w5.heap.size + 1, 0, none⟩) 1 1) (by omega))).more (show _ ≤ 30000 by have := (unhide HPW).1; omega)
              rw [← hWS] at hR7
              have hR7 := hR7.below (by omega) hB5
              have hM7 := hmb.set 2 (.slice (some ⟨w5.heap.size + 1, 0, none⟩) 1 1) (by simp)
              rw [← hWS] at hM7
              have hM7 := hM7.below hB5 (by omega)
              have h57 : ∀ S : Nat → Prop, (∀ b, S b → b ≠ B ∧ b ≠ W2.heap.size) → StayD S w14 ((WS.alloc (.cells #[.int .i64 a5, .int .i64 b5, .string c5, .string y5, .slice s5 l5 t5] 31)).alloc (.cells #[.int .i64 4, .int .i64 0, .string ⟨#[112, 114, 105, 110, 116]⟩, .string ⟨#[]⟩, .slice (some ⟨w5.heap.size, 0, none⟩) 1 1] 31)) := fun S h => ((unhide HS15 S (fun b hb => (h b hb).1)).trans (hk5.mv.stay (fun b hb => (h b hb).1))).trans ((hset S (fun hb => (h W2.heap.size hb).2 rfl)).trans (StayD.below hB5))
              have hF7 := (unhide HF14).staySub (h57 _ (fun b h => by have := h.1; exact ⟨by omega, by omega⟩)) (fun g hg => by have hLs := unhide HC; have := hLs.2.2.2.2 g hg; exact ⟨⟨by omega, by omega⟩, fun e => hLs.2.1 (hg.trans e)⟩)
              have hT7 := (unhide HT14).trans (h57 _ (fun b h => by have := unhide HGU; have := unhide HZZ; rcases h with h | h <;> exact ⟨by omega, by omega⟩))
              have hK7 := hA2
              have hwx : wtL [TE.node 4 0 ⟨#[112, 114, 105, 110, 116]⟩ ⟨#[]⟩ [x5]] ≤ 20000 := by
                have h1 := (unhide HPW).2
                have h2 : (⟨#[112, 114, 105, 110, 116]⟩ : ByteArray).size = 5 := by decide
                simp only [wtL, TE.wt, List.length_cons, List.length_nil, emp_size, h2]
                omega
              subst hWS
              have HALL := hide (And.intro hR7 (And.intro hM7 (And.intro hF7 (And.intro hT7 hK7))))
              have HWX := hide hwx
              have hgz : GB < w5.heap.size := by omega
              clear hke hwe hk5 hke2 hs5 hset hA hN hA2 hB5 hR7 hM7 h57 hF7 hT7 hK7 hwx zx hz15 hz5 hmb
              go_wp2
              go_meet
              exact ⟨q5, some ⟨w5.heap.size + 1, 0, none⟩, 1, [TE.node 4 0 ⟨#[112, 114, 105, 110, 116]⟩ ⟨#[]⟩ [x5]], hide (unhide HALL).1, hide (unhide HALL).2.1, hide (unhide HALL).2.2.1, hide (unhide HALL).2.2.2.1, HP14, hide (by simp [World.setCell]; omega), hide (unhide HALL).2.2.2.2, hide ⟨by simp, unhide HWX⟩⟩
            · go_wp2
              go_meet
              exact ⟨q' + 1, none, 0, [], hide ((unhide HR14).more (by omega)), HM14, HF14, HT14, HP14, hide (unhide HZ14).1, hide (fun _ _ => .inl rfl), hide ⟨by simp, by simp [wtL]⟩⟩
          case rest =>
            obtain ⟨q3, ma, mc, mn, HR, HM, HF, HT, HP, HG, HK, HN⟩ := hcut
            clear HR14 HM14 HG14 HF14 HT14 HGEN HP14
            have hgl := unhide HGL14
            have hZN := unhide HZ14
            have HM0 := HM5
            rw [← hgl] at HM HF
            go_wp2
            go_loopg [15] fs.length (fun g iv wq => ∃ (hs : List (TF × List Value)) (ma : Option Addr) (mc : Nat) (mn : List TE), g = hs.length ∧ hs.length ≤ 3 ∧ Hid (RdM B a len cap 30000 w0 wq p q3) ∧ Hid (Blk wq W2.heap.size [.slice (some ⟨gu, 0, none⟩) uses.length cu, .slice fa hs.length fc, .slice ma mn.length mc]) ∧ Hid (OwnD (EltF 7) 9 33 (fun b => (w0.heap.size < b ∧ b ≠ W2.heap.size) ∧ some b ≠ some og) (W2.heap.size + 1) wq (.slice fa hs.length fc) hs) ∧ Hid (StayD (fun b => b = gu ∨ b = w0.heap.size) W5 wq) ∧ Hid (∀ x ∈ hs, FOk x.1 ∧ x.1.body.wt ≤ 4000) ∧ Hid (GB < wq.heap.size) ∧ Hid (KpD (fun b => GB < b) wq (fun W => IsKids (IsE W 0 W.heap.size 7) W 0 W.heap.size ma mn)) ∧ Hid (mn.length ≤ 1 ∧ wtL mn ≤ 20000))
            case atStart => exact ⟨gs, ma, mc, mn, hgl.symm, by omega, HR, HM, HF, HT, HP, HG, HK, HN⟩
            case round =>
              clear HR HM HF HT HP HG HK HN
              clear hgl
              obtain ⟨hs, ma, mc, mn, hg, hs3, HR, HM, HF, HT, HP, HG, HK, HN⟩ := hrel
              have HGG := hide hg
              clear hg
              have hLs := unhide HC
              have hU := (unhide HU5).staySub (S := fun b => b = gu) ((unhide HT).less (fun b _ h => .inl h)) (fun g hg => (Option.some.inj (show some gu = some g from hg)).symm)
              have hU2 := (hU.readsSub (fun g hg => (Option.some.inj (show some gu = some g from hg)).symm)).now
              have hF2 := ((unhide HF).readsSub (fun g hg => by have h9 := hLs.2.2.2.2 g ((ownBlock_len _ _ _ _).trans hg); have := unhide HZZ; exact ⟨⟨by omega, by omega⟩, fun e => hLs.2.1 (((ownBlock_len _ _ _ _).trans hg).trans e)⟩)).now
              have hMD : IsMod wr 0 wr.heap.size 7 (.agg #[.slice (some ⟨gu, 0, none⟩) uses.length cu, .slice fa hs.length fc, .slice ma mn.length mc]) ⟨uses, hs.map Prod.fst, mn⟩ := isMod_of (unhide HUN) (unhide HU5).capLe hs3 (unhide HN).1 hU2.wds hF2.funs (unhide HK).now
              have HTO := hide (TreeOkS_any 0 7 _ _ wr hMD (Nat.le_trans (mod_wt (unhide HUN) hs3 (unhide HP) (unhide HN)) (by omega)))
              obtain ⟨OK, hOK⟩ : ∃ OK, TM.okB ⟨uses, hs.map Prod.fst, mn⟩ = OK := ⟨_, rfl⟩
              rw [hOK] at HTO
              have c0 := (unhide HM).cellAt (i := 0) rfl
              have c1 := (unhide HM).cellAt (i := 1) rfl
              have c2 := (unhide HM).cellAt (i := 2) rfl
              clear hU hU2 hF2 hMD hLs hOK
              go_wp2_with fail
              clear c0 c1 c2
              refine (unhide HTO).mono ?_
              rintro r w16 ⟨rfl, hb16⟩
              have hgz := unhide HG
              have HRX := hide ((unhide HR).below (by omega) hb16)
              have HMX := hide ((unhide HM).below hb16 (by omega))
              have HFX := hide ((unhide HF).staySub (StayD.below hb16) (fun g hg => by have hLs := unhide HC; have h9 := hLs.2.2.2.2 g ((ownBlock_len _ _ _ _).trans hg); have := unhide HZZ; exact ⟨⟨by omega, by omega⟩, fun e => hLs.2.1 (((ownBlock_len _ _ _ _).trans hg).trans e)⟩))
              have HTX := hide ((unhide HT).trans (StayD.below hb16))
              have HKX := hide ((unhide HK).stay (StayD.below hb16))
              have HGX : Hid (GB < w16.heap.size) := hide (by have := hb16.size; omega)
              have HPX := HP
              have HNX := HN
              clear hb16 HR HM HF HT HK HG HP HN HTO hgz
              cases OK with
              | true =>
                have n0 := (unhide HM0).ofb ((unhide HTX).2 w0.heap.size (by have := unhide HZ5; have := unhide HZZ; omega) (.inr rfl))
                have y0 := n0.cellAt (i := 0) rfl
                have y1 := n0.cellAt (i := 1) rfl
                have y2 := n0.cellAt (i := 2) rfl
                have x0 := n0.2 0
                have x1 := n0.2 1
                have x2 := n0.2 2
                have c0 := (unhide HMX).cellAt (i := 0) rfl
                have c1 := (unhide HMX).cellAt (i := 1) rfl
                have c2 := (unhide HMX).cellAt (i := 2) rfl
                go_wp2
                have hst := ((((StayD.refl (fun b => w0.heap.size < b) w16).set w0.heap.size 0 (.slice (some ⟨gu, 0, none⟩) uses.length cu) (fun _ h => by (try dsimp only at h); omega)).set w0.heap.size 1 (.slice fa hs.length fc) (fun _ h => by (try dsimp only at h); omega)).set w0.heap.size 2 (.slice ma mn.length mc) (fun _ h => by (try dsimp only at h); omega))
                have hn := ((((((n0).set 0 (.slice (some ⟨gu, 0, none⟩) uses.length cu) (by simp))).set 1 (.slice fa hs.length fc) (by simp))).set 2 (.slice ma mn.length mc) (by simp))
                have hK := (((((((unhide HRX)).set (by have := unhide HZZ; have := (unhide HRX).size; omega) w0.heap.size 0 (.slice (some ⟨gu, 0, none⟩) uses.length cu) (by omega))).set (by have := unhide HZZ; have := (unhide HRX).size; omega) w0.heap.size 1 (.slice fa hs.length fc) (by omega))).set (by have := unhide HZZ; have := (unhide HRX).size; omega) w0.heap.size 2 (.slice ma mn.length mc) (by omega))
                obtain ⟨FW, hF⟩ : ∃ FW, FW = (((w16.setCell ⟨w0.heap.size, 0, none⟩ (.slice (some ⟨gu, 0, none⟩) uses.length cu)).setCell ⟨w0.heap.size, 1, none⟩ (.slice fa hs.length fc)).setCell ⟨w0.heap.size, 2, none⟩ (.slice ma mn.length mc)) := ⟨_, rfl⟩
                rw [← hF] at hst hn hK ⊢
                have g0 := hn.cellAt (i := 0) rfl
                have g1 := hn.cellAt (i := 1) rfl
                have g2 := hn.cellAt (i := 2) rfl
                refine bodyPost_ret (v := .agg #[.slice (some ⟨gu, 0, none⟩) uses.length cu, .slice fa hs.length fc, .slice ma mn.length mc]) (by simp [results, Tryz.results37, go_sem, g0, g1, g2]) rfl ?_
                have hLs := unhide HC
                refine ⟨_, ⟨uses, hs.map Prod.fst, mn⟩, q3, rfl, fun W hW => ?_, (unhide HUN).1, (unhide HUN).2, by rw [List.length_map]; omega, fun z hz => ?_, mod_wt (unhide HUN) (by omega) (unhide HPX) (unhide HNX), hK.more (by omega)⟩
                · have hall : StayD (fun b => w0.heap.size < b) w16 W := hst.trans (hW.less (fun b _ h => Nat.le_of_lt h))
                  have hU := (unhide HU5).staySub (S := fun b => b = gu) ((unhide HTX).less (fun b _ h => .inl h)) (fun g hg => (Option.some.inj (show some gu = some g from hg)).symm)
                  have hU2 := hU.readsSub (fun g hg => (Option.some.inj (show some gu = some g from hg)).symm) W (hall.less (fun b _ h => by have h9 : b = gu := h; have := unhide HGU; omega))
                  have hF2 := (unhide HFX).readsSub (fun g hg => by have h9 := hLs.2.2.2.2 g ((ownBlock_len _ _ _ _).trans hg); have := unhide HZZ; exact ⟨⟨by omega, by omega⟩, fun e => hLs.2.1 (((ownBlock_len _ _ _ _).trans hg).trans e)⟩) W (hall.less (fun b _ h => h.1.1))
                  exact isMod_of (unhide HUN) (unhide HU5).capLe (by omega) (unhide HNX).1 hU2.wds hF2.funs (unhide HKX W (hall.less (fun b _ h => by have h9 : GB < b := h; have := unhide HZ14; omega)))
                · obtain ⟨y, hy, rfl⟩ := List.mem_map.1 hz
                  exact (unhide HPX y hy).1
              | false =>
                by_cases h0 : hs.length = 0
                · rw [h0] at HMX
                  have HMX : Hid (Blk w16 W2.heap.size [.slice (some ⟨gu, 0, none⟩) uses.length cu, .slice fa 0 fc, .slice ma mn.length mc]) := HMX
                  have HFX := HFX
                  have n0 := (unhide HM0).ofb ((unhide HTX).2 w0.heap.size (by have := unhide HZ5; have := unhide HZZ; omega) (.inr rfl))
                  have y0 := n0.cellAt (i := 0) rfl
                  have y1 := n0.cellAt (i := 1) rfl
                  have y2 := n0.cellAt (i := 2) rfl
                  have x0 := n0.2 0
                  have x1 := n0.2 1
                  have x2 := n0.2 2
                  have c0 := (unhide HMX).cellAt (i := 0) rfl
                  have c1 := (unhide HMX).cellAt (i := 1) rfl
                  have c2 := (unhide HMX).cellAt (i := 2) rfl
                  go_wp2
                  have hst := ((((StayD.refl (fun b => w0.heap.size < b) w16).set w0.heap.size 0 (.slice (some ⟨gu, 0, none⟩) uses.length cu) (fun _ h => by (try dsimp only at h); omega)).set w0.heap.size 1 (.slice fa 0 fc) (fun _ h => by (try dsimp only at h); omega)).set w0.heap.size 2 (.slice ma mn.length mc) (fun _ h => by (try dsimp only at h); omega))
                  have hn := ((((((n0).set 0 (.slice (some ⟨gu, 0, none⟩) uses.length cu) (by simp))).set 1 (.slice fa 0 fc) (by simp))).set 2 (.slice ma mn.length mc) (by simp))
                  have hK := (((((((unhide HRX)).set (by have := unhide HZZ; have := (unhide HRX).size; omega) w0.heap.size 0 (.slice (some ⟨gu, 0, none⟩) uses.length cu) (by omega))).set (by have := unhide HZZ; have := (unhide HRX).size; omega) w0.heap.size 1 (.slice fa 0 fc) (by omega))).set (by have := unhide HZZ; have := (unhide HRX).size; omega) w0.heap.size 2 (.slice ma mn.length mc) (by omega))
                  obtain ⟨FW, hF⟩ : ∃ FW, FW = (((w16.setCell ⟨w0.heap.size, 0, none⟩ (.slice (some ⟨gu, 0, none⟩) uses.length cu)).setCell ⟨w0.heap.size, 1, none⟩ (.slice fa 0 fc)).setCell ⟨w0.heap.size, 2, none⟩ (.slice ma mn.length mc)) := ⟨_, rfl⟩
                  rw [← hF] at hst hn hK ⊢
                  have g0 := hn.cellAt (i := 0) rfl
                  have g1 := hn.cellAt (i := 1) rfl
                  have g2 := hn.cellAt (i := 2) rfl
                  refine bodyPost_ret (v := .agg #[.slice (some ⟨gu, 0, none⟩) uses.length cu, .slice fa 0 fc, .slice ma mn.length mc]) (by simp [results, Tryz.results37, go_sem, g0, g1, g2]) rfl ?_
                  have hLs := unhide HC
                  refine ⟨_, ⟨uses, hs.map Prod.fst, mn⟩, q3, rfl, fun W hW => ?_, (unhide HUN).1, (unhide HUN).2, by rw [List.length_map]; omega, fun z hz => ?_, mod_wt (unhide HUN) (by omega) (unhide HPX) (unhide HNX), hK.more (by omega)⟩
                  · have hall : StayD (fun b => w0.heap.size < b) w16 W := hst.trans (hW.less (fun b _ h => Nat.le_of_lt h))
                    have hU := (unhide HU5).staySub (S := fun b => b = gu) ((unhide HTX).less (fun b _ h => .inl h)) (fun g hg => (Option.some.inj (show some gu = some g from hg)).symm)
                    have hU2 := hU.readsSub (fun g hg => (Option.some.inj (show some gu = some g from hg)).symm) W (hall.less (fun b _ h => by have h9 : b = gu := h; have := unhide HGU; omega))
                    have hF2 := (unhide HFX).readsSub (fun g hg => by have h9 := hLs.2.2.2.2 g ((ownBlock_len _ _ _ _).trans hg); have := unhide HZZ; exact ⟨⟨by omega, by omega⟩, fun e => hLs.2.1 (((ownBlock_len _ _ _ _).trans hg).trans e)⟩) W (hall.less (fun b _ h => h.1.1))
                    have hfin := isMod_of (fc := fc) (mc := mc) (unhide HUN) (unhide HU5).capLe (by omega) (unhide HNX).1 hU2.wds hF2.funs (unhide HKX W (hall.less (fun b _ h => by have h9 : GB < b := h; have := unhide HZ14; omega)))
                    rw [h0] at hfin
                    exact hfin
                  · obtain ⟨y, hy, rfl⟩ := List.mem_map.1 hz
                    exact (unhide HPX y hy).1
                · obtain ⟨m, hm⟩ := Nat.exists_eq_succ_of_ne_zero h0
                  have hm : hs.length = m + 1 := hm
                  rw [hm] at HMX HFX
                  obtain ⟨fg, hfa⟩ : ∃ fg, fa = some ⟨fg, 0, none⟩ := by
                    rcases (unhide HFX).row.2 with ⟨e, h9⟩ | ⟨g, cap'', cur, e, _⟩
                    · simp at e
                    · simp only [Value.slice.injEq] at e; exact ⟨g, e.1⟩
                  subst hfa
                  have hLs := unhide HC
                  have hfg := hLs.2.2.2.2 fg rfl
                  have hzz := unhide HZZ
                  have hne : fg ≠ og := fun e => hLs.2.1 (by rw [e]; rfl)
                  have hcp := (unhide HFX).capLe
                  obtain ⟨-, hcut⟩ := (unhide HFX).cut1
                  have hdl : hs.dropLast.length = m := by rw [List.length_dropLast]; omega
                  have c1 := (unhide HMX).cellAt (i := 1) rfl
                  have c2 := (unhide HMX).cellAt (i := 2) rfl
                  have z1 := (unhide HMX).2 1
                  have z2 := (unhide HMX).2 2
                  have hw1 : IntKind.i64.wrap (((m + 1 : Nat) : Int) - 1) = (m : Int) := by rw [IntKind.wrap_i64]; omega
                  go_wp2
                  have hr17 := ((unhide HRX).set (by omega) W2.heap.size 2 (.slice none 0 0) (by omega)).set (by omega) W2.heap.size 1 (.slice (some ⟨fg, 0, none⟩) m fc) (by omega)
                  have hm17 := ((unhide HMX).set 2 (.slice none 0 0) (by simp)).set 1 (.slice (some ⟨fg, 0, none⟩) m fc) (by simp)
                  have hst17 : ∀ S : Nat → Prop, ¬ S W2.heap.size → StayD S w16 ((w16.setCell ⟨W2.heap.size, 2, none⟩ (.slice none 0 0)).setCell ⟨W2.heap.size, 1, none⟩ (.slice (some ⟨fg, 0, none⟩) m fc)) := fun S h => ((StayD.refl S w16).set W2.heap.size 2 _ (fun _ => h)).set W2.heap.size 1 _ (fun _ => h)
                  have hf17 := hcut.staySub (hst17 _ (fun h => h.1.2 rfl)) (fun g hg => by have : fg = g := Option.some.inj hg; exact ⟨⟨by omega, by omega⟩, fun e => hne (by have := Option.some.inj e; omega)⟩)
                  have ht17 := (unhide HTX).trans (hst17 _ (fun h => by have := unhide HGU; rcases h with h | h <;> omega))
                  have hg17 : GB < ((w16.setCell ⟨W2.heap.size, 2, none⟩ (.slice none 0 0)).setCell ⟨W2.heap.size, 1, none⟩ (.slice (some ⟨fg, 0, none⟩) m fc)).heap.size := by have := unhide HGX; simpa [World.setCell] using this
                  obtain ⟨W17, hW17⟩ : ∃ W17, W17 = (w16.setCell ⟨W2.heap.size, 2, none⟩ (.slice none 0 0)).setCell ⟨W2.heap.size, 1, none⟩ (.slice (some ⟨fg, 0, none⟩) m fc) := ⟨_, rfl⟩
                  rw [← hW17] at hr17 hm17 hf17 ht17 hg17 ⊢
                  have HR17 := hide hr17
                  have HM17 : Hid (Blk W17 W2.heap.size [.slice (some ⟨gu, 0, none⟩) uses.length cu, .slice (some ⟨fg, 0, none⟩) m fc, .slice none 0 0]) := hide hm17
                  have HF17 := hide hf17
                  have HT17 := hide ht17
                  have HG17 := hide hg17
                  have HP17 : Hid (∀ x ∈ hs.dropLast, FOk x.1 ∧ x.1.body.wt ≤ 4000) := hide (fun x hx => unhide HPX x (List.dropLast_subset hs hx))
                  have HFG : Hid (W2.heap.size + 1 ≤ fg ∧ fg < GB ∧ fg ≠ og) := hide ⟨hfg.1, hfg.2, hne⟩
                  have hm3 : m < 3 := by omega
                  have HHM : Hid (hs.length = m + 1) := hide hm
                  clear hr17 hm17 hst17 hf17 ht17 hg17 hW17 hcut c1 c2 z1 z2 hLs hfg hzz hne hcp h0 hm HRX HMX HFX HTX HKX HGX HPX HNX hw1
                  have HDL := hide hdl
                  clear hdl
                  go_loopg [15] m (fun g iv wq => ∃ (k : Nat) (ts : List (TF × List Value)), g = m - k ∧ iv = .int .i64 k ∧ k ≤ m ∧ Hid (ts.length = m) ∧ Hid (RdM B a len cap 30000 w0 wq p q3) ∧ Hid (Blk wq W2.heap.size [.slice (some ⟨gu, 0, none⟩) uses.length cu, .slice (some ⟨fg, 0, none⟩) m fc, .slice none 0 0]) ∧ Hid (OwnD (EltF 7) 9 33 (fun b => (w0.heap.size < b ∧ b ≠ W2.heap.size) ∧ some b ≠ some og) (W2.heap.size + 1) wq (.slice (some ⟨fg, 0, none⟩) m fc) ts) ∧ Hid (StayD (fun b => b = gu ∨ b = w0.heap.size) W5 wq) ∧ Hid (∀ x ∈ ts, FOk x.1 ∧ x.1.body.wt ≤ 4000) ∧ Hid (GB < wq.heap.size))
                  case atStart => exact ⟨0, _, by omega, by go_num, Nat.zero_le _, HDL, HR17, HM17, HF17, HT17, HP17, HG17⟩
                  case round =>
                    clear HDL HR17 HM17 HF17 HT17 HP17 HG17
                    obtain ⟨k, ts, hgk, rfl, hk, HTL, HR, HM, HF, HT, HP, HG⟩ := hrel
                    have qm := (unhide HM).cellAt (i := 1) rfl
                    by_cases hp4 : k < m
                    · have hkl : k < ts.length := by rw [unhide HTL]; exact hp4
                      obtain ⟨e0, e1, e2, e3, e4, e5, e6, e7, e8, h9⟩ := (unhide HF).nine k hkl
                      have hrow := (unhide HF).row
                      rw [unhide HTL] at hrow
                      have hcl : ∀ i, i < 9 → wr.cell? ⟨fg, k * 9 + i, none⟩ = [e0, e1, e2, e3, e4, e5, e6, e7, e8][i]? := fun i hi => by rw [← h9]; exact (unhide HF).cell k hkl i hi
                      have hfz : ∀ i, wr.frozen? ⟨fg, k * 9 + i, none⟩ = false := fun i => hrow.frozenAt (k * 9 + i)
                      have HCL := hide (And.intro hcl hfz)
                      have HFG2 : Hid (fg < wr.heap.size ∧ W2.heap.size < wr.heap.size ∧ fg ≠ W2.heap.size) := hide (by have := unhide HFG; have := unhide HG; omega)
                      have HSK := hide (fun (w' : World) (hb : Below wr.heap.size wr w') => (⟨(hb.cell (p := ⟨W2.heap.size, 1, none⟩) (unhide HFG2).2.1).trans qm, (hb.cell (p := ⟨fg, k * 9 + 4, none⟩) (unhide HFG2).1).trans ((unhide HCL).1 4 (by omega)), (hb.cell (p := ⟨fg, k * 9 + 5, none⟩) (unhide HFG2).1).trans ((unhide HCL).1 5 (by omega)), (hb.cell (p := ⟨fg, k * 9 + 6, none⟩) (unhide HFG2).1).trans ((unhide HCL).1 6 (by omega)), (hb.cell (p := ⟨fg, k * 9 + 7, none⟩) (unhide HFG2).1).trans ((unhide HCL).1 7 (by omega)), (hb.cell (p := ⟨fg, k * 9 + 8, none⟩) (unhide HFG2).1).trans ((unhide HCL).1 8 (by omega)), (hb.frozen (p := ⟨fg, k * 9 + 4, none⟩) (unhide HFG2).1).trans ((unhide HCL).2 4), (hb.frozen (p := ⟨fg, k * 9 + 5, none⟩) (unhide HFG2).1).trans ((unhide HCL).2 5), (hb.frozen (p := ⟨fg, k * 9 + 6, none⟩) (unhide HFG2).1).trans ((unhide HCL).2 6), (hb.frozen (p := ⟨fg, k * 9 + 7, none⟩) (unhide HFG2).1).trans ((unhide HCL).2 7), (hb.frozen (p := ⟨fg, k * 9 + 8, none⟩) (unhide HFG2).1).trans ((unhide HCL).2 8)⟩ : w'.cell? ⟨W2.heap.size, 1, none⟩ = some (.slice (some ⟨fg, 0, none⟩) m fc) ∧ w'.cell? ⟨fg, k * 9 + 4, none⟩ = some e4 ∧ w'.cell? ⟨fg, k * 9 + 5, none⟩ = some e5 ∧ w'.cell? ⟨fg, k * 9 + 6, none⟩ = some e6 ∧ w'.cell? ⟨fg, k * 9 + 7, none⟩ = some e7 ∧ w'.cell? ⟨fg, k * 9 + 8, none⟩ = some e8 ∧ w'.frozen? ⟨fg, k * 9 + 4, none⟩ = false ∧ w'.frozen? ⟨fg, k * 9 + 5, none⟩ = false ∧ w'.frozen? ⟨fg, k * 9 + 6, none⟩ = false ∧ w'.frozen? ⟨fg, k * 9 + 7, none⟩ = false ∧ w'.frozen? ⟨fg, k * 9 + 8, none⟩ = false))
                      clear hcl hfz hrow
                      go_wp2
                      go_region_with (first | (go_at_call 39; refine (l22NumE_any _ _).mono ?_; rintro r w5 ⟨rfl, hb5⟩; have hb5' : Below wr.heap.size wr w5 := (Below.refl _ wr).drew.trans hb5; obtain ⟨qn, o4, o5, o6, o7, o8, f4, f5, f6, f7, f8⟩ := unhide HSK w5 hb5'; have HB5 := hide hb5'; clear hb5 hb5'))
                      all_goals
                        have hb5 := unhide HB5
                        have hg2 := unhide HFG2
                        have hsz5 := hb5.size
                        have hF5 := (unhide HF).staySub (StayD.below hb5) (fun g hg => by have : fg = g := Option.some.inj hg; have := unhide HFG; exact ⟨⟨by omega, by omega⟩, fun e => by have := Option.some.inj e; omega⟩)
                        have hx := (unhide HP) _ (List.getElem_mem hkl)
                        obtain ⟨x, hxe⟩ : ∃ x, ts[k]'hkl = x := ⟨_, rfl⟩
                        rw [hxe] at hx h9
                        have hxd : ts[k]'hkl = (x.1, [e0, e1, e2, e3, e4, e5, e6, e7, e8]) := by rw [hxe, ← h9]
                        have r1 := hF5.raw.put k hkl 4 (by omega) (.int .i64 1) rfl (⟨x.1.name, x.1.pub, x.1.args, 1, .node 1 k ⟨#[]⟩ ⟨#[]⟩ []⟩ : TF) _ (by rw [hxd])
                        have r2 := r1.put k (by simpa using hkl) 5 (by omega) (.int .i64 (k : Int)) rfl (⟨x.1.name, x.1.pub, x.1.args, 1, .node 1 k ⟨#[]⟩ ⟨#[]⟩ []⟩ : TF) [e0, e1, e2, e3, .int .i64 1, e5, e6, e7, e8] (by simp)
                        simp only [List.set_set] at r2
                        have r3 := r2.put k (by simpa using hkl) 6 (by omega) (.string ⟨#[]⟩) rfl (⟨x.1.name, x.1.pub, x.1.args, 1, .node 1 k ⟨#[]⟩ ⟨#[]⟩ []⟩ : TF) [e0, e1, e2, e3, .int .i64 1, .int .i64 k, e6, e7, e8] (by simp)
                        simp only [List.set_set] at r3
                        have r4 := r3.put k (by simpa using hkl) 7 (by omega) (.string ⟨#[]⟩) rfl (⟨x.1.name, x.1.pub, x.1.args, 1, .node 1 k ⟨#[]⟩ ⟨#[]⟩ []⟩ : TF) [e0, e1, e2, e3, .int .i64 1, .int .i64 k, .string ⟨#[]⟩, e7, e8] (by simp)
                        simp only [List.set_set] at r4
                        have r5 := r4.put k (by simpa using hkl) 8 (by omega) (.slice none 0 0) rfl (⟨x.1.name, x.1.pub, x.1.args, 1, .node 1 k ⟨#[]⟩ ⟨#[]⟩ []⟩ : TF) [e0, e1, e2, e3, .int .i64 1, .int .i64 k, .string ⟨#[]⟩, .string ⟨#[]⟩, e8] (by simp)
                        simp only [List.set_set] at r5
                        have hs0 : StayD (fun b => b ≠ fg) w5 (((((w5.setCell ⟨fg, k * 9 + 4, none⟩ (.int .i64 1)).setCell ⟨fg, k * 9 + 4 + 1, none⟩ (.int .i64 (k : Int))).setCell ⟨fg, k * 9 + 4 + 2, none⟩ (.string ⟨#[]⟩)).setCell ⟨fg, k * 9 + 4 + 3, none⟩ (.string ⟨#[]⟩)).setCell ⟨fg, k * 9 + 4 + 4, none⟩ (.slice none 0 0)) := (((((StayD.refl (fun b => b ≠ fg) w5).set fg _ _ (fun _ h => h rfl)).set fg _ _ (fun _ h => h rfl)).set fg _ _ (fun _ h => h rfl)).set fg _ _ (fun _ h => h rfl)).set fg _ _ (fun _ h => h rfl)
                        have hr5 := (((((((unhide HR).below (by have := unhide HZ14; omega) hb5).set (by have := unhide HZ14; omega) fg (k * 9 + 4) (.int .i64 1) (by have := unhide HFG; have := unhide HZ14; omega)).set (by have := unhide HZ14; omega) fg (k * 9 + 4 + 1) (.int .i64 (k : Int)) (by have := unhide HFG; have := unhide HZ14; omega)).set (by have := unhide HZ14; omega) fg (k * 9 + 4 + 2) (.string ⟨#[]⟩) (by have := unhide HFG; have := unhide HZ14; omega)).set (by have := unhide HZ14; omega) fg (k * 9 + 4 + 3) (.string ⟨#[]⟩) (by have := unhide HFG; have := unhide HZ14; omega)).set (by have := unhide HZ14; omega) fg (k * 9 + 4 + 4) (.slice none 0 0) (by have := unhide HFG; have := unhide HZ14; omega))
                        obtain ⟨W9, hW9⟩ : ∃ W9, W9 = (((((w5.setCell ⟨fg, k * 9 + 4, none⟩ (.int .i64 1)).setCell ⟨fg, k * 9 + 4 + 1, none⟩ (.int .i64 (k : Int))).setCell ⟨fg, k * 9 + 4 + 2, none⟩ (.string ⟨#[]⟩)).setCell ⟨fg, k * 9 + 4 + 3, none⟩ (.string ⟨#[]⟩)).setCell ⟨fg, k * 9 + 4 + 4, none⟩ (.slice none 0 0)) := ⟨_, rfl⟩
                        have r5' : RowD 9 33 (W2.heap.size + 1) W9 (.slice (some ⟨fg, 0, none⟩) m fc) _ := hW9 ▸ r5
                        rw [← hW9] at hs0 hr5 ⊢
                        clear hW9 r1 r2 r3 r4 r5 qm qn o4 o5 o6 o7 o8 f4 f5 f6 f7 f8
                        have hkt : k < (ts.set k ((⟨x.1.name, x.1.pub, x.1.args, 1, .node 1 k ⟨#[]⟩ ⟨#[]⟩ []⟩ : TF), [e0, e1, e2, e3, .int .i64 1, .int .i64 k, .string ⟨#[]⟩, .string ⟨#[]⟩, .slice none 0 0])).length := by simpa using hkl
                        have o3 : W9.cell? ⟨fg, k * 9 + 3, none⟩ = some e3 := (r5'.cell k hkt 3 (by omega)).trans (by simp)
                        have f3 : W9.frozen? ⟨fg, k * 9 + 3, none⟩ = false := by
                          have hrow := r5'.row
                          rw [List.length_set, unhide HTL] at hrow
                          exact hrow.frozenAt (k * 9 + 3)
                        have hmb := ((unhide HM).below hb5 hg2.2.1).ofb (hs0.2 W2.heap.size (by omega) (fun e => hg2.2.2 e.symm))
                        have qm := hmb.cellAt (i := 1) rfl
                        have r6 := r5'.put k hkt 3 (by omega) (.int .i64 1) rfl (⟨x.1.name, x.1.pub, x.1.args, 1, .node 1 k ⟨#[]⟩ ⟨#[]⟩ []⟩ : TF) [e0, e1, e2, e3, .int .i64 1, .int .i64 k, .string ⟨#[]⟩, .string ⟨#[]⟩, .slice none 0 0] (by simp)
                        simp only [List.set_set] at r6
                        have hs1 : StayD (fun b => b ≠ fg) w5 (W9.setCell ⟨fg, k * 9 + 3, none⟩ (.int .i64 1)) := hs0.set fg _ _ (fun _ h => h rfl)
                        have hr6 := hr5.set (by have := unhide HZ14; omega) fg (k * 9 + 3) (.int .i64 1) (by have := unhide HFG; have := unhide HZ14; omega)
                        have hel := (hF5.els _ (List.getElem_mem hkl)).stay (hs1.less (fun b _ h e => h.2 (by rw [e]; rfl)))
                        rw [hxd] at hel
                        have htn := hF5.turned hs1 k (⟨x.1.name, x.1.pub, x.1.args, 1, .node 1 k ⟨#[]⟩ ⟨#[]⟩ []⟩ : TF) [e0, e1, e2, .int .i64 1, .int .i64 1, .int .i64 k, .string ⟨#[]⟩, .string ⟨#[]⟩, .slice none 0 0] r6 (hel.imp (fun W hW => hW.num k))
                        have hmb2 := hmb.other fg (k * 9 + 3) (.int .i64 1) (fun e => hg2.2.2 e)
                        have ht6 := ((unhide HT).trans (StayD.below hb5)).trans (hs1.less (fun b _ h e => by have := unhide HFG; have := unhide HGU; have := unhide HZ14; rcases h with h | h <;> omega))
                        have hp6 : ∀ z ∈ ts.set k ((⟨x.1.name, x.1.pub, x.1.args, 1, .node 1 k ⟨#[]⟩ ⟨#[]⟩ []⟩ : TF), [e0, e1, e2, .int .i64 1, .int .i64 1, .int .i64 k, .string ⟨#[]⟩, .string ⟨#[]⟩, .slice none 0 0]), FOk z.1 ∧ z.1.body.wt ≤ 4000 := by
                          intro z hz
                          rcases List.mem_or_eq_of_mem_set hz with hz | rfl
                          · exact unhide HP z hz
                          · exact num_ok hx.1 k
                        have hg6 : GB < (W9.setCell ⟨fg, k * 9 + 3, none⟩ (.int .i64 1)).heap.size := by have := hs1.1; have := unhide HG; omega
                        have HALL := hide (And.intro hr6 (And.intro hmb2 (And.intro htn (And.intro ht6 (And.intro hp6 hg6)))))
                        have HGK := hide hgk
                        clear hr6 hmb2 htn ht6 hp6 hg6 r6 hs1 hel hmb hs0 hr5 r5' hkt hxd hxe hx h9 hF5 hsz5 hb5 hg2 hgk
                        go_wp2
                        go_roundg (m - (k + 1))
                        case rel => exact ⟨k + 1, ts.set k ((⟨x.1.name, x.1.pub, x.1.args, 1, .node 1 k ⟨#[]⟩ ⟨#[]⟩ []⟩ : TF), [e0, e1, e2, .int .i64 1, .int .i64 1, .int .i64 k, .string ⟨#[]⟩, .string ⟨#[]⟩, .slice none 0 0]), rfl, by go_num, by omega, hide (by rw [List.length_set]; exact unhide HTL), hide (unhide HALL).1, hide (unhide HALL).2.1, hide (unhide HALL).2.2.1, hide (unhide HALL).2.2.2.1, hide (unhide HALL).2.2.2.2.1, hide (unhide HALL).2.2.2.2.2⟩
                        case measure => have := unhide HGK; omega
                    · have HHM2 : Hid (m + 1 = _) := hide (by have h8 := unhide HGG; have h9 := unhide HHM; exact h9.symm.trans h8.symm)
                      go_wp2
                      clear qm
                      go_roundg m
                      case rel => exact ⟨ts, none, 0, [], (unhide HTL).symm, by have := unhide HTL; omega, HR, hide (by rw [unhide HTL]; exact unhide HM), hide (by rw [unhide HTL]; exact unhide HF), HT, HP, HG, hide (fun _ _ => .inl rfl), hide ⟨by simp, by simp [wtL]⟩⟩
                      case measure => have := unhide HHM2; omega
end Go.Proofs.YtffabnmgcicpiaaGreat
