/- The walk of l22Pub. Conditions: the module can be read. -/
import Derived.Test.YtffabnmgcicpiaaGreatDi
import Derived.Test.YtffabnmgcicpiaaGreatG5
namespace Go.Proofs.YtffabnmgcicpiaaGreat
open Go.RowKit Go.PlainAid


theorem infoSigL : (Tryz.prog.info? 102).map (fun i => (i.zero, i.size, i.bytes)) = some (some (.agg #[.string ⟨#[]⟩, .string ⟨#[]⟩, .slice none 0 0, .int .i64 0]), 4, 64) := by kernel_rfl

/-- What is known of each slot that the region PubA writes. -/
def PubA (lo x : Nat) (MB g off n fc k : Nat) (ov : Value) (md fn : ByteArray) (ty : Int) (args : List Int) (fv : Value) : Nat → Value → World → Prop
  | 0, v, _ => v = ov
  | 1, v, _ => v = .string md
  | 2, v, _ => v = .pointer (some ⟨MB, 1, none⟩)
  | 3, v, _ => v = .slice (some ⟨g, off, none⟩) n fc
  | 4, v, _ => v = .int .i64 k
  | 5, v, _ => v = .pointer (some ⟨g, off + k * 9, none⟩)
  | 6, v, _ => v = .pointer (some ⟨g, off + k * 9, none⟩)
  | 7, v, _ => v = .string fn
  | 8, v, _ => v = .pointer (some ⟨MB, 1, none⟩)
  | 9, v, _ => v = .slice (some ⟨g, off, none⟩) n fc
  | 10, v, _ => v = .int .i64 k
  | 11, v, _ => v = .pointer (some ⟨g, off + k * 9, none⟩)
  | 12, v, _ => v = fv
  | 13, v, w => ∃ (aa : Option Addr) (ca : Nat), v = .agg #[.string fn, .slice aa args.length ca, .int .i64 ty] ∧ KpD (fun b => lo ≤ b ∧ b ≠ x) w (fun W => IsInts W 0 W.heap.size aa args)
  | 14, v, w => ∃ (aa : Option Addr) (ca : Nat), v = .slice aa args.length ca ∧ KpD (fun b => lo ≤ b ∧ b ≠ x) w (fun W => IsInts W 0 W.heap.size aa args)
  | 15, v, _ => v = .pointer (some ⟨MB, 1, none⟩)
  | 16, v, _ => v = .slice (some ⟨g, off, none⟩) n fc
  | 17, v, _ => v = .int .i64 k
  | 18, v, _ => v = .pointer (some ⟨g, off + k * 9, none⟩)
  | 19, v, _ => v = .pointer (some ⟨g, off + k * 9 + 3, none⟩)
  | 20, v, _ => v = .int .i64 ty
  | 21, v, w => ∃ (aa : Option Addr) (ca : Nat), v = .agg #[.string md, .string fn, .slice aa args.length ca, .int .i64 ty] ∧ KpD (fun b => lo ≤ b ∧ b ≠ x) w (fun W => IsInts W 0 W.heap.size aa args)
  | 22, v, w => ∃ (h : Nat) (aa : Option Addr) (ca : Nat), v = .slice (some ⟨h, 0, none⟩) 1 1 ∧ lo ≤ h ∧ h < w.heap.size ∧ Blk w h [.string md, .string fn, .slice aa args.length ca, .int .i64 ty] ∧ KpD (fun b => lo ≤ b ∧ b ≠ x) w (fun W => IsInts W 0 W.heap.size aa args)
  | _, _, _ => True
theorem PubA.stay {lo x : Nat} {MB g off n fc k : Nat} {ov : Value} {md fn : ByteArray} {ty : Int} {args : List Int} {fv : Value} {w w' : World} (hs : StayD (fun _ => True) w w') (hl0 : ∀ b, lo ≤ b ∧ b ≠ x → (fun _ => True) b) : ∀ (j : Nat) (v : Value), PubA lo x MB g off n fc k ov md fn ty args fv j v w → PubA lo x MB g off n fc k ov md fn ty args fv j v w' := by
  have hl : StayD (fun b => lo ≤ b ∧ b ≠ x) w w' := hs.less (fun b _ h => hl0 b h)
  intro j v h
  match j, h with
  | 0, h => exact h
  | 1, h => exact h
  | 2, h => exact h
  | 3, h => exact h
  | 4, h => exact h
  | 5, h => exact h
  | 6, h => exact h
  | 7, h => exact h
  | 8, h => exact h
  | 9, h => exact h
  | 10, h => exact h
  | 11, h => exact h
  | 12, h => exact h
  | 13, h => obtain ⟨aa, ca, h1, h2⟩ := h; exact ⟨aa, ca, h1, h2.stay hl⟩
  | 14, h => obtain ⟨aa, ca, h1, h2⟩ := h; exact ⟨aa, ca, h1, h2.stay hl⟩
  | 15, h => exact h
  | 16, h => exact h
  | 17, h => exact h
  | 18, h => exact h
  | 19, h => exact h
  | 20, h => exact h
  | 21, h => obtain ⟨aa, ca, h1, h2⟩ := h; exact ⟨aa, ca, h1, h2.stay hl⟩
  | 22, h => obtain ⟨h0, aa, ca, h1, h2, h3, h4, h5⟩ := h; exact ⟨h0, aa, ca, h1, h2, Nat.lt_of_lt_of_le h3 hs.1, h4.ofb (hs.2 h0 h3 trivial), h5.stay hl⟩
  | j + 23, _ => trivial

set_option maxRecDepth 100000 in
set_option maxHeartbeats 8000000 in
theorem l22Pub_any (lo0 h : Nat) (md : ByteArray) (v : Value) (m : TM) (w : World) (hM : IsMod w lo0 w.heap.size h v m) (hl : m.funs.length ≤ 100) (hf : ∀ x ∈ m.funs, x.args.length ≤ 1048576) :
    Calls Tryz.prog 36 #[.string md, v] w fun r w' => ∃ (v' : Value) (ps : List (SG × List Value)), r = .returned v' ∧ OwnD EltS 4 102 (fun b => w.heap.size ≤ b) w.heap.size w' v' ps ∧ ps.length ≤ m.funs.length ∧ (∀ p ∈ ps, p.1.mod = md ∧ ∃ x ∈ m.funs, p.1.name = x.name ∧ p.1.args.length = x.args.length) ∧ Below w.heap.size w w' := by
  obtain ⟨a1, a2, a3, k1, fc, k3, rfl, hz, q1, q2, q3⟩ := hM
  clear q1 q3 hz
  obtain ⟨W1, hW1⟩ : ∃ W1, W1 = (w.alloc (.cells #[.slice a1 m.uses.length k1, .slice a2 m.funs.length fc, .slice a3 m.main.length k3] 27)).alloc (.cells #[] 102) := ⟨_, rfl⟩
  obtain ⟨MB, hMB⟩ : ∃ MB, w.heap.size = MB := ⟨_, rfl⟩
  obtain ⟨lo, hlo⟩ : ∃ lo, MB + 1 = lo := ⟨_, rfl⟩
  have hb1 : Below MB w W1 := by rw [hW1, ← hMB]; exact ((Below.refl _ _).alloc (Nat.le_refl _) _).alloc (by simp) _
  have hsz : W1.heap.size = MB + 2 := by rw [hW1, ← hMB]; simp
  have hcm : W1.cell? ⟨MB, 1, none⟩ = some (.slice a2 m.funs.length fc) := by
    rw [hW1, ← hMB]
    exact ((Blk.new w [.slice a1 m.uses.length k1, .slice a2 m.funs.length fc, .slice a3 m.main.length k3] 27).old _ (by simp)).1 1
  have HO1 : Hid (OwnD EltS 4 102 (fun b => lo ≤ b) lo W1 (.slice (some ⟨lo, 0, none⟩) 0 0) []) := hide (by
    have := OwnD.made EltS 4 102 (fun b => lo ≤ b) (w.alloc (.cells #[.slice a1 m.uses.length k1, .slice a2 m.funs.length fc, .slice a3 m.main.length k3] 27))
    rw [alloc_size, hMB, hlo] at this
    rw [hW1]; exact this)
  have HFU := hide q2
  have HB1 := hide hb1
  have HSZ := hide hsz
  have HCM := hide hcm
  have HLN0 := hide hl
  have HF := hide hf
  have HMB0 := hide hMB
  have HLO0 := hide hlo
  clear q2 hb1 hsz hcm hf
  go_enter Tryz.func36, Tryz.ntmps36
  go_wp2
  rw [← hW1]
  clear hW1
  go_loopw [5, 6] (fun ov iv wr => ∃ (k : Nat) (ps : List (SG × List Value)) (sa : Option Addr) (sc : Nat), ov = .slice sa ps.length sc ∧ iv = .int .i64 k ∧ k ≤ m.funs.length ∧ Hid (ps.length ≤ k) ∧ Hid (OwnD EltS 4 102 (fun b => lo ≤ b) lo wr (.slice sa ps.length sc) ps) ∧ Hid (Below lo W1 wr) ∧ Hid (∀ p ∈ ps, p.1.mod = md ∧ ∃ x ∈ m.funs, p.1.name = x.name ∧ p.1.args.length = x.args.length)) (fun _ iv _ => m.funs.length - (intOf iv).toNat)
  case atStart => exact ⟨0, [], some ⟨lo, 0, none⟩, 0, by rw [← hlo, ← hMB]; simp, rfl, Nat.zero_le _, hide (Nat.le_refl _), HO1, hide (Below.refl _ _), hide (fun p hp => absurd hp List.not_mem_nil)⟩
  case round =>
    obtain ⟨k, ps, sa, sc, rfl, rfl, hk, HLN, HO, HBW, HPS⟩ := hrel
    have hws : MB + 2 ≤ wr.heap.size := by rw [← unhide HSZ]; exact (unhide HBW).size
    have HMBL : Hid (MB < wr.heap.size) := hide (by omega)
    have HLO : Hid (lo ≤ wr.heap.size) := hide (by omega)
    have HMB : Hid (wr.cell? ⟨MB, 1, none⟩ = some (.slice a2 m.funs.length fc)) := hide (((unhide HBW).cell (p := ⟨MB, 1, none⟩) (by (try dsimp only); omega)).trans (unhide HCM))
    have qm := unhide HMB
    by_cases hp : k < m.funs.length
    · rcases (unhide HFU).kept ((unhide HB1).mono (by omega) |>.trans ((unhide HBW).mono (by omega)) : Below w.heap.size w wr) (Nat.le_trans (by omega) hws) with hq | ⟨g, off, hga, hbl, hgl, hcs⟩
      · rw [hq] at hp; simp at hp
      subst hga
      obtain ⟨c0, c1, c2, c3, c4, c5, c6, c7, c8, z0, z1, z2, z3, z4, z5, z6, z7, z8, hr⟩ := hcs k hp
      obtain ⟨xs, xp, xa, xl, xc, xt, e0, e1, e2, e3, e4, e5, e6, rfl, rfl, rfl, rfl, rfl, rfl, rfl, rfl, rfl⟩ := IsFun.form h hr
      have hrk := hr
      obtain ⟨x, hx⟩ : ∃ x, m.funs[k]'hp = x := ⟨_, rfl⟩
      have hxm : x ∈ m.funs := by rw [← hx]; exact List.getElem_mem hp
      rw [hx] at hrk
      have hv : xs = x.name ∧ xp = x.pub ∧ xt = x.type := by
        obtain ⟨aa', ca', b0, b1, b2, b3, b4, hv, _⟩ := hrk
        simp only [Value.agg.injEq, Array.mk.injEq, List.cons.injEq, Value.string.injEq, Value.bool.injEq, Value.int.injEq, true_and] at hv
        exact ⟨hv.1, hv.2.1, hv.2.2.2.1⟩
      obtain ⟨fn, hfn⟩ : ∃ fn, xs = fn := ⟨_, rfl⟩
      obtain ⟨ty, hty⟩ : ∃ ty, xt = ty := ⟨_, rfl⟩
      rw [hfn, hty] at hrk hv
      rw [hfn] at z0
      rw [hty] at z3
      obtain ⟨args, hargs⟩ : ∃ l, (sigOf x).args = l := ⟨_, rfl⟩
      have hal : args.length = x.args.length := by rw [← hargs]; simp [sigOf]
      have HL3 := hide (fun (W : World) (hb : Below wr.heap.size wr W) => show Calls Tryz.prog 21 #[.agg #[.string fn, .bool xp, .slice xa xl xc, .int .i64 ty, .int .i64 e0, .int .i64 e1, .string e2, .string e3, .slice e4 e5 e6]] W fun r w' => ∃ v5, r = .returned (.agg #[.string fn, v5, .int .i64 ty]) ∧ OwnI w' W.heap.size w'.heap.size v5 args ∧ Below W.heap.size W w' from by
        have := l3Of_any _ h _ x W (IsFun.same h (Below.same hb) (Nat.le_refl _) hb.size _ _ hrk) (unhide HF x hxm)
        unfold OwnSig at this
        rw [hargs, show (sigOf x).name = fn from hv.1.symm, show (sigOf x).type = ty from hv.2.2.symm] at this
        exact this)
      have HPK := hide hp
      have HXM := hide (show ∃ x ∈ m.funs, fn = x.name ∧ args.length = x.args.length from ⟨x, hxm, hv.1, hal⟩)
      have HGL := hide hgl
      have HC0 := hide z0
      have HC1 := hide z1
      have HC2 := hide z2
      have HC3 := hide z3
      have HC4 := hide z4
      have HC5 := hide z5
      have HC6 := hide z6
      have HC7 := hide z7
      have HC8 := hide z8
      clear hcs hr hrk hv hfn hty hargs hal hx hxm z0 z2 z3 z4 z5 z6 z7 z8
      cases xp with
      | false =>
        go_wp2
        go_roundw
        case rel => exact ⟨k + 1, ps, sa, sc, rfl, by go_num, by have := unhide HPK; omega, hide (by have := unhide HLN; omega), HO, HBW, HPS⟩
        case measure => have := unhide HPK; simp [intOf]; omega
      | true =>
        go_wp2
        clear z1 qm
        refine wp_region_inv (by kernel_rfl) (fun k => (decide (21 ≤ k) && decide (k ≤ 44)) || decide (k = 5)) (fun L us w => (L 23 = false → Below wr.heap.size wr w ∧ us 5 = .slice sa ps.length sc ∧ Cl (PubA wr.heap.size 0 MB g off m.funs.length fc k (.slice sa ps.length sc) md fn ty args (.agg #[.string fn, .bool true, .slice xa xl xc, .int .i64 ty, .int .i64 e0, .int .i64 e1, .string e2, .string e3, .slice e4 e5 e6])) (fun j => 21 + j) L us w) ∧
          (L 23 = true → ∃ (g5 c5 : Nat) (aa : Option Addr) (ca : Nat), us 44 = .slice (some ⟨g5, 0, none⟩) (ps.length + 1) c5 ∧ (L 24 = true → us 5 = .slice (some ⟨g5, 0, none⟩) (ps.length + 1) c5) ∧ OwnD EltS 4 102 (fun b => lo ≤ b) lo w (.slice (some ⟨g5, 0, none⟩) (ps.length + 1) c5) (ps ++ [(⟨md, fn, args, ty⟩, [.string md, .string fn, .slice aa args.length ca, .int .i64 ty])]) ∧ Below lo wr w)) (by kernel_rfl) ?_ ?_ ?_
        · refine ⟨fun _ => ⟨(Below.refl _ wr).drew, rfl, fun j hj => ?_⟩, (fun h => by simp at h)⟩
          have hj2 : 25 ≤ j := of_decide_eq_true hj
          obtain ⟨m', rfl⟩ : ∃ m', j = m' + 23 := ⟨j - 23, by omega⟩
          trivial
        · refine ⟨?_, ?_, ?_, ?_, ?_, ?_, ?_, ?_, ?_, ?_, ?_, ?_, ?_, ?_, ?_, ?_, ?_, ?_, ?_, ?_, ?_, ?_, ?_, ?_, ?_, trivial⟩
          -- operation 0
          · rintro L us w ⟨hA, -⟩ hl hdep hbh hup K hK
            have hlast : L 23 = false := hbh 23 (by kernel_rfl)
            have hnl : updL L 0 23 = false := (updL_other _ _ _ (by decide)).trans hlast
            obtain ⟨hst, d99, hcl⟩ := hA hlast
            have HK9 := hide d99
            have HST := hide hst
            have HCL := hide hcl
            clear hst hcl hA hdep hbh hup hl hlast
            simp only [frmFrom, Nat.reduceAdd, Nat.reduceLeDiff, Nat.reduceEqDiff, decide_true, decide_false, Bool.and_true, Bool.and_false, Bool.or_true, Bool.or_false, Bool.false_eq_true, if_true, if_false]
            go_simp
            refine hK _ _ ⟨updU us 21 (.slice sa ps.length sc), by simp [frmFrom, updU, d99], fun _ => ?_, (fun h => by rw [hnl] at h; cases h)⟩
            have hb2 : Below w.heap.size w (w) := Below.refl _ _
            have hs2 : StayD (fun _ => True) w (w) := StayD.below hb2
            exact ⟨(unhide HST).trans (hb2.mono (unhide HST).size), (updU_other _ _ _ _ (by decide)).trans (unhide HK9), (unhide HCL).put (fun j v h => PubA.stay hs2 (fun _ _ => trivial) j v h) (rfl) (fun j hj => by omega)⟩
          -- operation 1
          · rintro L us w ⟨hA, -⟩ hl hdep hbh hup K hK
            have hlast : L 23 = false := hbh 23 (by kernel_rfl)
            have hnl : updL L 1 23 = false := (updL_other _ _ _ (by decide)).trans hlast
            obtain ⟨hst, d99, hcl⟩ := hA hlast
            have HK9 := hide d99
            have HST := hide hst
            have HCL := hide hcl
            clear hst hcl hA hdep hbh hup hl hlast
            simp only [frmFrom, Nat.reduceAdd, Nat.reduceLeDiff, Nat.reduceEqDiff, decide_true, decide_false, Bool.and_true, Bool.and_false, Bool.or_true, Bool.or_false, Bool.false_eq_true, if_true, if_false]
            clear d99
            go_simp
            refine hK _ _ ⟨updU us 22 (.string md), by simp [frmFrom, updU], fun _ => ?_, (fun h => by rw [hnl] at h; cases h)⟩
            have hb2 : Below w.heap.size w (w) := Below.refl _ _
            have hs2 : StayD (fun _ => True) w (w) := StayD.below hb2
            exact ⟨(unhide HST).trans (hb2.mono (unhide HST).size), (updU_other _ _ _ _ (by decide)).trans (unhide HK9), (unhide HCL).put (fun j v h => PubA.stay hs2 (fun _ _ => trivial) j v h) (rfl) (fun j hj => by omega)⟩
          -- operation 2
          · rintro L us w ⟨hA, -⟩ hl hdep hbh hup K hK
            have hlast : L 23 = false := hbh 23 (by kernel_rfl)
            have hnl : updL L 2 23 = false := (updL_other _ _ _ (by decide)).trans hlast
            obtain ⟨hst, d99, hcl⟩ := hA hlast
            have HK9 := hide d99
            have HST := hide hst
            have HCL := hide hcl
            clear hst hcl hA hdep hbh hup hl hlast
            simp only [frmFrom, Nat.reduceAdd, Nat.reduceLeDiff, Nat.reduceEqDiff, decide_true, decide_false, Bool.and_true, Bool.and_false, Bool.or_true, Bool.or_false, Bool.false_eq_true, if_true, if_false]
            clear d99
            go_simp
            refine hK _ _ ⟨updU us 23 (.pointer (some ⟨MB, 1, none⟩)), by simp [frmFrom, updU], fun _ => ?_, (fun h => by rw [hnl] at h; cases h)⟩
            have hb2 : Below w.heap.size w (w) := Below.refl _ _
            have hs2 : StayD (fun _ => True) w (w) := StayD.below hb2
            exact ⟨(unhide HST).trans (hb2.mono (unhide HST).size), (updU_other _ _ _ _ (by decide)).trans (unhide HK9), (unhide HCL).put (fun j v h => PubA.stay hs2 (fun _ _ => trivial) j v h) (rfl) (fun j hj => by omega)⟩
          -- operation 3
          · rintro L us w ⟨hA, -⟩ hl hdep hbh hup K hK
            have hlast : L 23 = false := hbh 23 (by kernel_rfl)
            have hnl : updL L 3 23 = false := (updL_other _ _ _ (by decide)).trans hlast
            obtain ⟨hst, d99, hcl⟩ := hA hlast
            have HK9 := hide d99
            have d2 : us 23 = _ := hcl 2 (hup 2 (by decide) (by kernel_rfl))
            have qm : w.cell? ⟨MB, 1, none⟩ = some (.slice (some ⟨g, off, none⟩) m.funs.length fc) := (World.cell?_of_block (w := wr) (a := ⟨MB, 1, none⟩) (hst.block MB (unhide HMBL))).trans (unhide HMB)
            have HST := hide hst
            have HCL := hide hcl
            clear hst hcl hA hdep hbh hup hl hlast
            simp only [frmFrom, Nat.reduceAdd, Nat.reduceLeDiff, Nat.reduceEqDiff, decide_true, decide_false, Bool.and_true, Bool.and_false, Bool.or_true, Bool.or_false, Bool.false_eq_true, if_true, if_false]
            clear d99
            go_simp
            refine hK _ _ ⟨updU us 24 (.slice (some ⟨g, off, none⟩) m.funs.length fc), by simp [frmFrom, updU, d2], fun _ => ?_, (fun h => by rw [hnl] at h; cases h)⟩
            have hb2 : Below w.heap.size w (w) := Below.refl _ _
            have hs2 : StayD (fun _ => True) w (w) := StayD.below hb2
            exact ⟨(unhide HST).trans (hb2.mono (unhide HST).size), (updU_other _ _ _ _ (by decide)).trans (unhide HK9), (unhide HCL).put (fun j v h => PubA.stay hs2 (fun _ _ => trivial) j v h) (rfl) (fun j hj => by omega)⟩
          -- operation 4
          · rintro L us w ⟨hA, -⟩ hl hdep hbh hup K hK
            have hlast : L 23 = false := hbh 23 (by kernel_rfl)
            have hnl : updL L 4 23 = false := (updL_other _ _ _ (by decide)).trans hlast
            obtain ⟨hst, d99, hcl⟩ := hA hlast
            have HK9 := hide d99
            have HST := hide hst
            have HCL := hide hcl
            clear hst hcl hA hdep hbh hup hl hlast
            simp only [frmFrom, Nat.reduceAdd, Nat.reduceLeDiff, Nat.reduceEqDiff, decide_true, decide_false, Bool.and_true, Bool.and_false, Bool.or_true, Bool.or_false, Bool.false_eq_true, if_true, if_false]
            clear d99
            go_simp
            refine hK _ _ ⟨updU us 25 (.int .i64 (k : Int)), by simp [frmFrom, updU], fun _ => ?_, (fun h => by rw [hnl] at h; cases h)⟩
            have hb2 : Below w.heap.size w (w) := Below.refl _ _
            have hs2 : StayD (fun _ => True) w (w) := StayD.below hb2
            exact ⟨(unhide HST).trans (hb2.mono (unhide HST).size), (updU_other _ _ _ _ (by decide)).trans (unhide HK9), (unhide HCL).put (fun j v h => PubA.stay hs2 (fun _ _ => trivial) j v h) (rfl) (fun j hj => by omega)⟩
          -- operation 5
          · rintro L us w ⟨hA, -⟩ hl hdep hbh hup K hK
            have hlast : L 23 = false := hbh 23 (by kernel_rfl)
            have hnl : updL L 5 23 = false := (updL_other _ _ _ (by decide)).trans hlast
            obtain ⟨hst, d99, hcl⟩ := hA hlast
            have HK9 := hide d99
            have d3 : us 24 = _ := hcl 3 (hup 3 (by decide) (by kernel_rfl))
            have d4 : us 25 = _ := hcl 4 (hup 4 (by decide) (by kernel_rfl))
            have HST := hide hst
            have HCL := hide hcl
            clear hst hcl hA hdep hbh hup hl hlast
            simp only [frmFrom, Nat.reduceAdd, Nat.reduceLeDiff, Nat.reduceEqDiff, decide_true, decide_false, Bool.and_true, Bool.and_false, Bool.or_true, Bool.or_false, Bool.false_eq_true, if_true, if_false]
            clear d99
            go_simp
            refine hK _ _ ⟨updU us 26 (.pointer (some ⟨g, off + k * 9, none⟩)), by simp [frmFrom, updU, d3, d4], fun _ => ?_, (fun h => by rw [hnl] at h; cases h)⟩
            have hb2 : Below w.heap.size w (w) := Below.refl _ _
            have hs2 : StayD (fun _ => True) w (w) := StayD.below hb2
            exact ⟨(unhide HST).trans (hb2.mono (unhide HST).size), (updU_other _ _ _ _ (by decide)).trans (unhide HK9), (unhide HCL).put (fun j v h => PubA.stay hs2 (fun _ _ => trivial) j v h) (rfl) (fun j hj => by omega)⟩
          -- operation 6
          · rintro L us w ⟨hA, -⟩ hl hdep hbh hup K hK
            have hlast : L 23 = false := hbh 23 (by kernel_rfl)
            have hnl : updL L 6 23 = false := (updL_other _ _ _ (by decide)).trans hlast
            obtain ⟨hst, d99, hcl⟩ := hA hlast
            have HK9 := hide d99
            have d5 : us 26 = _ := hcl 5 (hup 5 (by decide) (by kernel_rfl))
            have HST := hide hst
            have HCL := hide hcl
            clear hst hcl hA hdep hbh hup hl hlast
            simp only [frmFrom, Nat.reduceAdd, Nat.reduceLeDiff, Nat.reduceEqDiff, decide_true, decide_false, Bool.and_true, Bool.and_false, Bool.or_true, Bool.or_false, Bool.false_eq_true, if_true, if_false]
            clear d99
            go_simp
            refine hK _ _ ⟨updU us 27 (.pointer (some ⟨g, off + k * 9, none⟩)), by simp [frmFrom, updU, d5], fun _ => ?_, (fun h => by rw [hnl] at h; cases h)⟩
            have hb2 : Below w.heap.size w (w) := Below.refl _ _
            have hs2 : StayD (fun _ => True) w (w) := StayD.below hb2
            exact ⟨(unhide HST).trans (hb2.mono (unhide HST).size), (updU_other _ _ _ _ (by decide)).trans (unhide HK9), (unhide HCL).put (fun j v h => PubA.stay hs2 (fun _ _ => trivial) j v h) (rfl) (fun j hj => by omega)⟩
          -- operation 7
          · rintro L us w ⟨hA, -⟩ hl hdep hbh hup K hK
            have hlast : L 23 = false := hbh 23 (by kernel_rfl)
            have hnl : updL L 7 23 = false := (updL_other _ _ _ (by decide)).trans hlast
            obtain ⟨hst, d99, hcl⟩ := hA hlast
            have HK9 := hide d99
            have d6 : us 27 = _ := hcl 6 (hup 6 (by decide) (by kernel_rfl))
            have q0 : w.cell? ⟨g, off + k * 9, none⟩ = some (.string fn) := (World.cell?_of_block (w := wr) (a := ⟨g, off + k * 9, none⟩) (hst.block g (unhide HGL))).trans (unhide HC0)
            have HST := hide hst
            have HCL := hide hcl
            clear hst hcl hA hdep hbh hup hl hlast
            simp only [frmFrom, Nat.reduceAdd, Nat.reduceLeDiff, Nat.reduceEqDiff, decide_true, decide_false, Bool.and_true, Bool.and_false, Bool.or_true, Bool.or_false, Bool.false_eq_true, if_true, if_false]
            clear d99
            go_simp
            refine hK _ _ ⟨updU us 28 (.string fn), by simp [frmFrom, updU, d6], fun _ => ?_, (fun h => by rw [hnl] at h; cases h)⟩
            have hb2 : Below w.heap.size w (w) := Below.refl _ _
            have hs2 : StayD (fun _ => True) w (w) := StayD.below hb2
            exact ⟨(unhide HST).trans (hb2.mono (unhide HST).size), (updU_other _ _ _ _ (by decide)).trans (unhide HK9), (unhide HCL).put (fun j v h => PubA.stay hs2 (fun _ _ => trivial) j v h) (rfl) (fun j hj => by omega)⟩
          -- operation 8
          · rintro L us w ⟨hA, -⟩ hl hdep hbh hup K hK
            have hlast : L 23 = false := hbh 23 (by kernel_rfl)
            have hnl : updL L 8 23 = false := (updL_other _ _ _ (by decide)).trans hlast
            obtain ⟨hst, d99, hcl⟩ := hA hlast
            have HK9 := hide d99
            have HST := hide hst
            have HCL := hide hcl
            clear hst hcl hA hdep hbh hup hl hlast
            simp only [frmFrom, Nat.reduceAdd, Nat.reduceLeDiff, Nat.reduceEqDiff, decide_true, decide_false, Bool.and_true, Bool.and_false, Bool.or_true, Bool.or_false, Bool.false_eq_true, if_true, if_false]
            clear d99
            go_simp
            refine hK _ _ ⟨updU us 29 (.pointer (some ⟨MB, 1, none⟩)), by simp [frmFrom, updU], fun _ => ?_, (fun h => by rw [hnl] at h; cases h)⟩
            have hb2 : Below w.heap.size w (w) := Below.refl _ _
            have hs2 : StayD (fun _ => True) w (w) := StayD.below hb2
            exact ⟨(unhide HST).trans (hb2.mono (unhide HST).size), (updU_other _ _ _ _ (by decide)).trans (unhide HK9), (unhide HCL).put (fun j v h => PubA.stay hs2 (fun _ _ => trivial) j v h) (rfl) (fun j hj => by omega)⟩
          -- operation 9
          · rintro L us w ⟨hA, -⟩ hl hdep hbh hup K hK
            have hlast : L 23 = false := hbh 23 (by kernel_rfl)
            have hnl : updL L 9 23 = false := (updL_other _ _ _ (by decide)).trans hlast
            obtain ⟨hst, d99, hcl⟩ := hA hlast
            have HK9 := hide d99
            have d8 : us 29 = _ := hcl 8 (hup 8 (by decide) (by kernel_rfl))
            have qm : w.cell? ⟨MB, 1, none⟩ = some (.slice (some ⟨g, off, none⟩) m.funs.length fc) := (World.cell?_of_block (w := wr) (a := ⟨MB, 1, none⟩) (hst.block MB (unhide HMBL))).trans (unhide HMB)
            have HST := hide hst
            have HCL := hide hcl
            clear hst hcl hA hdep hbh hup hl hlast
            simp only [frmFrom, Nat.reduceAdd, Nat.reduceLeDiff, Nat.reduceEqDiff, decide_true, decide_false, Bool.and_true, Bool.and_false, Bool.or_true, Bool.or_false, Bool.false_eq_true, if_true, if_false]
            clear d99
            go_simp
            refine hK _ _ ⟨updU us 30 (.slice (some ⟨g, off, none⟩) m.funs.length fc), by simp [frmFrom, updU, d8], fun _ => ?_, (fun h => by rw [hnl] at h; cases h)⟩
            have hb2 : Below w.heap.size w (w) := Below.refl _ _
            have hs2 : StayD (fun _ => True) w (w) := StayD.below hb2
            exact ⟨(unhide HST).trans (hb2.mono (unhide HST).size), (updU_other _ _ _ _ (by decide)).trans (unhide HK9), (unhide HCL).put (fun j v h => PubA.stay hs2 (fun _ _ => trivial) j v h) (rfl) (fun j hj => by omega)⟩
          -- operation 10
          · rintro L us w ⟨hA, -⟩ hl hdep hbh hup K hK
            have hlast : L 23 = false := hbh 23 (by kernel_rfl)
            have hnl : updL L 10 23 = false := (updL_other _ _ _ (by decide)).trans hlast
            obtain ⟨hst, d99, hcl⟩ := hA hlast
            have HK9 := hide d99
            have HST := hide hst
            have HCL := hide hcl
            clear hst hcl hA hdep hbh hup hl hlast
            simp only [frmFrom, Nat.reduceAdd, Nat.reduceLeDiff, Nat.reduceEqDiff, decide_true, decide_false, Bool.and_true, Bool.and_false, Bool.or_true, Bool.or_false, Bool.false_eq_true, if_true, if_false]
            clear d99
            go_simp
            refine hK _ _ ⟨updU us 31 (.int .i64 (k : Int)), by simp [frmFrom, updU], fun _ => ?_, (fun h => by rw [hnl] at h; cases h)⟩
            have hb2 : Below w.heap.size w (w) := Below.refl _ _
            have hs2 : StayD (fun _ => True) w (w) := StayD.below hb2
            exact ⟨(unhide HST).trans (hb2.mono (unhide HST).size), (updU_other _ _ _ _ (by decide)).trans (unhide HK9), (unhide HCL).put (fun j v h => PubA.stay hs2 (fun _ _ => trivial) j v h) (rfl) (fun j hj => by omega)⟩
          -- operation 11
          · rintro L us w ⟨hA, -⟩ hl hdep hbh hup K hK
            have hlast : L 23 = false := hbh 23 (by kernel_rfl)
            have hnl : updL L 11 23 = false := (updL_other _ _ _ (by decide)).trans hlast
            obtain ⟨hst, d99, hcl⟩ := hA hlast
            have HK9 := hide d99
            have d9 : us 30 = _ := hcl 9 (hup 9 (by decide) (by kernel_rfl))
            have d10 : us 31 = _ := hcl 10 (hup 10 (by decide) (by kernel_rfl))
            have HST := hide hst
            have HCL := hide hcl
            clear hst hcl hA hdep hbh hup hl hlast
            simp only [frmFrom, Nat.reduceAdd, Nat.reduceLeDiff, Nat.reduceEqDiff, decide_true, decide_false, Bool.and_true, Bool.and_false, Bool.or_true, Bool.or_false, Bool.false_eq_true, if_true, if_false]
            clear d99
            go_simp
            refine hK _ _ ⟨updU us 32 (.pointer (some ⟨g, off + k * 9, none⟩)), by simp [frmFrom, updU, d10, d9], fun _ => ?_, (fun h => by rw [hnl] at h; cases h)⟩
            have hb2 : Below w.heap.size w (w) := Below.refl _ _
            have hs2 : StayD (fun _ => True) w (w) := StayD.below hb2
            exact ⟨(unhide HST).trans (hb2.mono (unhide HST).size), (updU_other _ _ _ _ (by decide)).trans (unhide HK9), (unhide HCL).put (fun j v h => PubA.stay hs2 (fun _ _ => trivial) j v h) (rfl) (fun j hj => by omega)⟩
          -- operation 12
          · rintro L us w ⟨hA, -⟩ hl hdep hbh hup K hK
            have hlast : L 23 = false := hbh 23 (by kernel_rfl)
            have hnl : updL L 12 23 = false := (updL_other _ _ _ (by decide)).trans hlast
            obtain ⟨hst, d99, hcl⟩ := hA hlast
            have HK9 := hide d99
            have d11 : us 32 = _ := hcl 11 (hup 11 (by decide) (by kernel_rfl))
            have q0 : w.cell? ⟨g, off + k * 9, none⟩ = some (.string fn) := (World.cell?_of_block (w := wr) (a := ⟨g, off + k * 9, none⟩) (hst.block g (unhide HGL))).trans (unhide HC0)
            have q1 : w.cell? ⟨g, off + k * 9 + 1, none⟩ = some (.bool true) := (World.cell?_of_block (w := wr) (a := ⟨g, off + k * 9 + 1, none⟩) (hst.block g (unhide HGL))).trans (unhide HC1)
            have q2 : w.cell? ⟨g, off + k * 9 + 2, none⟩ = some (.slice xa xl xc) := (World.cell?_of_block (w := wr) (a := ⟨g, off + k * 9 + 2, none⟩) (hst.block g (unhide HGL))).trans (unhide HC2)
            have q3 : w.cell? ⟨g, off + k * 9 + 3, none⟩ = some (.int .i64 ty) := (World.cell?_of_block (w := wr) (a := ⟨g, off + k * 9 + 3, none⟩) (hst.block g (unhide HGL))).trans (unhide HC3)
            have q4 : w.cell? ⟨g, off + k * 9 + 4, none⟩ = some (.int .i64 e0) := (World.cell?_of_block (w := wr) (a := ⟨g, off + k * 9 + 4, none⟩) (hst.block g (unhide HGL))).trans (unhide HC4)
            have q5 : w.cell? ⟨g, off + k * 9 + 5, none⟩ = some (.int .i64 e1) := (World.cell?_of_block (w := wr) (a := ⟨g, off + k * 9 + 5, none⟩) (hst.block g (unhide HGL))).trans (unhide HC5)
            have q6 : w.cell? ⟨g, off + k * 9 + 6, none⟩ = some (.string e2) := (World.cell?_of_block (w := wr) (a := ⟨g, off + k * 9 + 6, none⟩) (hst.block g (unhide HGL))).trans (unhide HC6)
            have q7 : w.cell? ⟨g, off + k * 9 + 7, none⟩ = some (.string e3) := (World.cell?_of_block (w := wr) (a := ⟨g, off + k * 9 + 7, none⟩) (hst.block g (unhide HGL))).trans (unhide HC7)
            have q8 : w.cell? ⟨g, off + k * 9 + 8, none⟩ = some (.slice e4 e5 e6) := (World.cell?_of_block (w := wr) (a := ⟨g, off + k * 9 + 8, none⟩) (hst.block g (unhide HGL))).trans (unhide HC8)
            have HST := hide hst
            have HCL := hide hcl
            clear hst hcl hA hdep hbh hup hl hlast
            simp only [frmFrom, Nat.reduceAdd, Nat.reduceLeDiff, Nat.reduceEqDiff, decide_true, decide_false, Bool.and_true, Bool.and_false, Bool.or_true, Bool.or_false, Bool.false_eq_true, if_true, if_false]
            clear d99
            go_simp
            refine hK _ _ ⟨updU us 33 (.agg #[.string fn, .bool true, .slice xa xl xc, .int .i64 ty, .int .i64 e0, .int .i64 e1, .string e2, .string e3, .slice e4 e5 e6]), by simp [frmFrom, updU, d11], fun _ => ?_, (fun h => by rw [hnl] at h; cases h)⟩
            have hb2 : Below w.heap.size w (w) := Below.refl _ _
            have hs2 : StayD (fun _ => True) w (w) := StayD.below hb2
            exact ⟨(unhide HST).trans (hb2.mono (unhide HST).size), (updU_other _ _ _ _ (by decide)).trans (unhide HK9), (unhide HCL).put (fun j v h => PubA.stay hs2 (fun _ _ => trivial) j v h) (rfl) (fun j hj => by omega)⟩
          -- operation 13
          · rintro L us w ⟨hA, -⟩ hl hdep hbh hup K hK
            have hlast : L 23 = false := hbh 23 (by kernel_rfl)
            have hnl : updL L 13 23 = false := (updL_other _ _ _ (by decide)).trans hlast
            obtain ⟨hst, d99, hcl⟩ := hA hlast
            have HK9 := hide d99
            have d12 : us 33 = _ := hcl 12 (hup 12 (by decide) (by kernel_rfl))
            have HST := hide hst
            have HCL := hide hcl
            clear hst hcl hA hdep hbh hup hl hlast
            simp only [frmFrom, Nat.reduceAdd, Nat.reduceLeDiff, Nat.reduceEqDiff, decide_true, decide_false, Bool.and_true, Bool.and_false, Bool.or_true, Bool.or_false, Bool.false_eq_true, if_true, if_false]
            clear d99
            go_simp
            refine (unhide HL3 w (unhide HST)).mono ?_
            rintro r w5 ⟨v5, rfl, hi5, hb5⟩
            obtain ⟨aa, ca, rfl, hi6⟩ := hi5.ints
            have hkp : KpD (fun b => wr.heap.size ≤ b ∧ b ≠ 0) w5 (fun W => IsInts W 0 W.heap.size aa args) := fun W hW => hi6.same (fun b h1 h2 => hW.2 b h2 ⟨Nat.le_trans (unhide HST).size h1, by have := unhide HMBL; have := (unhide HST).size; omega⟩) (Nat.zero_le _) hW.1
            have HKP := hide hkp
            clear hi5 hi6 hkp
            go_simp
            refine hK _ _ ⟨updU us 34 (.agg #[.string fn, .slice aa args.length ca, .int .i64 ty]), by simp [frmFrom, updU, d12], fun _ => ?_, (fun h => by rw [hnl] at h; cases h)⟩
            have hb2 : Below w.heap.size w (w5) := hb5
            have hs2 : StayD (fun _ => True) w (w5) := StayD.below hb2
            exact ⟨(unhide HST).trans (hb2.mono (unhide HST).size), (updU_other _ _ _ _ (by decide)).trans (unhide HK9), (unhide HCL).put (fun j v h => PubA.stay hs2 (fun _ _ => trivial) j v h) (⟨aa, ca, rfl, unhide HKP⟩) (fun j hj => by omega)⟩
          -- operation 14
          · rintro L us w ⟨hA, -⟩ hl hdep hbh hup K hK
            have hlast : L 23 = false := hbh 23 (by kernel_rfl)
            have hnl : updL L 14 23 = false := (updL_other _ _ _ (by decide)).trans hlast
            obtain ⟨hst, d99, hcl⟩ := hA hlast
            have HK9 := hide d99
            obtain ⟨aa, ca, d13, hk13⟩ := hcl 13 (hup 13 (by decide) (by kernel_rfl))
            have d13 : us 34 = _ := d13
            have HST := hide hst
            have HCL := hide hcl
            clear hst hcl hA hdep hbh hup hl hlast
            simp only [frmFrom, Nat.reduceAdd, Nat.reduceLeDiff, Nat.reduceEqDiff, decide_true, decide_false, Bool.and_true, Bool.and_false, Bool.or_true, Bool.or_false, Bool.false_eq_true, if_true, if_false]
            clear d99
            go_simp
            refine hK _ _ ⟨updU us 35 (.slice aa args.length ca), by simp [frmFrom, updU, d13, Act.put], fun _ => ?_, (fun h => by rw [hnl] at h; cases h)⟩
            have hb2 : Below w.heap.size w (w) := Below.refl _ _
            have hs2 : StayD (fun _ => True) w (w) := StayD.below hb2
            exact ⟨(unhide HST).trans (hb2.mono (unhide HST).size), (updU_other _ _ _ _ (by decide)).trans (unhide HK9), (unhide HCL).put (fun j v h => PubA.stay hs2 (fun _ _ => trivial) j v h) (⟨aa, ca, rfl, hk13⟩) (fun j hj => by omega)⟩
          -- operation 15
          · rintro L us w ⟨hA, -⟩ hl hdep hbh hup K hK
            have hlast : L 23 = false := hbh 23 (by kernel_rfl)
            have hnl : updL L 15 23 = false := (updL_other _ _ _ (by decide)).trans hlast
            obtain ⟨hst, d99, hcl⟩ := hA hlast
            have HK9 := hide d99
            have HST := hide hst
            have HCL := hide hcl
            clear hst hcl hA hdep hbh hup hl hlast
            simp only [frmFrom, Nat.reduceAdd, Nat.reduceLeDiff, Nat.reduceEqDiff, decide_true, decide_false, Bool.and_true, Bool.and_false, Bool.or_true, Bool.or_false, Bool.false_eq_true, if_true, if_false]
            clear d99
            go_simp
            refine hK _ _ ⟨updU us 36 (.pointer (some ⟨MB, 1, none⟩)), by simp [frmFrom, updU], fun _ => ?_, (fun h => by rw [hnl] at h; cases h)⟩
            have hb2 : Below w.heap.size w (w) := Below.refl _ _
            have hs2 : StayD (fun _ => True) w (w) := StayD.below hb2
            exact ⟨(unhide HST).trans (hb2.mono (unhide HST).size), (updU_other _ _ _ _ (by decide)).trans (unhide HK9), (unhide HCL).put (fun j v h => PubA.stay hs2 (fun _ _ => trivial) j v h) (rfl) (fun j hj => by omega)⟩
          -- operation 16
          · rintro L us w ⟨hA, -⟩ hl hdep hbh hup K hK
            have hlast : L 23 = false := hbh 23 (by kernel_rfl)
            have hnl : updL L 16 23 = false := (updL_other _ _ _ (by decide)).trans hlast
            obtain ⟨hst, d99, hcl⟩ := hA hlast
            have HK9 := hide d99
            have d15 : us 36 = _ := hcl 15 (hup 15 (by decide) (by kernel_rfl))
            have qm : w.cell? ⟨MB, 1, none⟩ = some (.slice (some ⟨g, off, none⟩) m.funs.length fc) := (World.cell?_of_block (w := wr) (a := ⟨MB, 1, none⟩) (hst.block MB (unhide HMBL))).trans (unhide HMB)
            have HST := hide hst
            have HCL := hide hcl
            clear hst hcl hA hdep hbh hup hl hlast
            simp only [frmFrom, Nat.reduceAdd, Nat.reduceLeDiff, Nat.reduceEqDiff, decide_true, decide_false, Bool.and_true, Bool.and_false, Bool.or_true, Bool.or_false, Bool.false_eq_true, if_true, if_false]
            clear d99
            go_simp
            refine hK _ _ ⟨updU us 37 (.slice (some ⟨g, off, none⟩) m.funs.length fc), by simp [frmFrom, updU, d15], fun _ => ?_, (fun h => by rw [hnl] at h; cases h)⟩
            have hb2 : Below w.heap.size w (w) := Below.refl _ _
            have hs2 : StayD (fun _ => True) w (w) := StayD.below hb2
            exact ⟨(unhide HST).trans (hb2.mono (unhide HST).size), (updU_other _ _ _ _ (by decide)).trans (unhide HK9), (unhide HCL).put (fun j v h => PubA.stay hs2 (fun _ _ => trivial) j v h) (rfl) (fun j hj => by omega)⟩
          -- operation 17
          · rintro L us w ⟨hA, -⟩ hl hdep hbh hup K hK
            have hlast : L 23 = false := hbh 23 (by kernel_rfl)
            have hnl : updL L 17 23 = false := (updL_other _ _ _ (by decide)).trans hlast
            obtain ⟨hst, d99, hcl⟩ := hA hlast
            have HK9 := hide d99
            have HST := hide hst
            have HCL := hide hcl
            clear hst hcl hA hdep hbh hup hl hlast
            simp only [frmFrom, Nat.reduceAdd, Nat.reduceLeDiff, Nat.reduceEqDiff, decide_true, decide_false, Bool.and_true, Bool.and_false, Bool.or_true, Bool.or_false, Bool.false_eq_true, if_true, if_false]
            clear d99
            go_simp
            refine hK _ _ ⟨updU us 38 (.int .i64 (k : Int)), by simp [frmFrom, updU], fun _ => ?_, (fun h => by rw [hnl] at h; cases h)⟩
            have hb2 : Below w.heap.size w (w) := Below.refl _ _
            have hs2 : StayD (fun _ => True) w (w) := StayD.below hb2
            exact ⟨(unhide HST).trans (hb2.mono (unhide HST).size), (updU_other _ _ _ _ (by decide)).trans (unhide HK9), (unhide HCL).put (fun j v h => PubA.stay hs2 (fun _ _ => trivial) j v h) (rfl) (fun j hj => by omega)⟩
          -- operation 18
          · rintro L us w ⟨hA, -⟩ hl hdep hbh hup K hK
            have hlast : L 23 = false := hbh 23 (by kernel_rfl)
            have hnl : updL L 18 23 = false := (updL_other _ _ _ (by decide)).trans hlast
            obtain ⟨hst, d99, hcl⟩ := hA hlast
            have HK9 := hide d99
            have d16 : us 37 = _ := hcl 16 (hup 16 (by decide) (by kernel_rfl))
            have d17 : us 38 = _ := hcl 17 (hup 17 (by decide) (by kernel_rfl))
            have HST := hide hst
            have HCL := hide hcl
            clear hst hcl hA hdep hbh hup hl hlast
            simp only [frmFrom, Nat.reduceAdd, Nat.reduceLeDiff, Nat.reduceEqDiff, decide_true, decide_false, Bool.and_true, Bool.and_false, Bool.or_true, Bool.or_false, Bool.false_eq_true, if_true, if_false]
            clear d99
            go_simp
            refine hK _ _ ⟨updU us 39 (.pointer (some ⟨g, off + k * 9, none⟩)), by simp [frmFrom, updU, d16, d17], fun _ => ?_, (fun h => by rw [hnl] at h; cases h)⟩
            have hb2 : Below w.heap.size w (w) := Below.refl _ _
            have hs2 : StayD (fun _ => True) w (w) := StayD.below hb2
            exact ⟨(unhide HST).trans (hb2.mono (unhide HST).size), (updU_other _ _ _ _ (by decide)).trans (unhide HK9), (unhide HCL).put (fun j v h => PubA.stay hs2 (fun _ _ => trivial) j v h) (rfl) (fun j hj => by omega)⟩
          -- operation 19
          · rintro L us w ⟨hA, -⟩ hl hdep hbh hup K hK
            have hlast : L 23 = false := hbh 23 (by kernel_rfl)
            have hnl : updL L 19 23 = false := (updL_other _ _ _ (by decide)).trans hlast
            obtain ⟨hst, d99, hcl⟩ := hA hlast
            have HK9 := hide d99
            have d18 : us 39 = _ := hcl 18 (hup 18 (by decide) (by kernel_rfl))
            have HST := hide hst
            have HCL := hide hcl
            clear hst hcl hA hdep hbh hup hl hlast
            simp only [frmFrom, Nat.reduceAdd, Nat.reduceLeDiff, Nat.reduceEqDiff, decide_true, decide_false, Bool.and_true, Bool.and_false, Bool.or_true, Bool.or_false, Bool.false_eq_true, if_true, if_false]
            clear d99
            go_simp
            refine hK _ _ ⟨updU us 40 (.pointer (some ⟨g, off + k * 9 + 3, none⟩)), by simp [frmFrom, updU, d18], fun _ => ?_, (fun h => by rw [hnl] at h; cases h)⟩
            have hb2 : Below w.heap.size w (w) := Below.refl _ _
            have hs2 : StayD (fun _ => True) w (w) := StayD.below hb2
            exact ⟨(unhide HST).trans (hb2.mono (unhide HST).size), (updU_other _ _ _ _ (by decide)).trans (unhide HK9), (unhide HCL).put (fun j v h => PubA.stay hs2 (fun _ _ => trivial) j v h) (rfl) (fun j hj => by omega)⟩
          -- operation 20
          · rintro L us w ⟨hA, -⟩ hl hdep hbh hup K hK
            have hlast : L 23 = false := hbh 23 (by kernel_rfl)
            have hnl : updL L 20 23 = false := (updL_other _ _ _ (by decide)).trans hlast
            obtain ⟨hst, d99, hcl⟩ := hA hlast
            have HK9 := hide d99
            have d19 : us 40 = _ := hcl 19 (hup 19 (by decide) (by kernel_rfl))
            have q3 : w.cell? ⟨g, off + k * 9 + 3, none⟩ = some (.int .i64 ty) := (World.cell?_of_block (w := wr) (a := ⟨g, off + k * 9 + 3, none⟩) (hst.block g (unhide HGL))).trans (unhide HC3)
            have HST := hide hst
            have HCL := hide hcl
            clear hst hcl hA hdep hbh hup hl hlast
            simp only [frmFrom, Nat.reduceAdd, Nat.reduceLeDiff, Nat.reduceEqDiff, decide_true, decide_false, Bool.and_true, Bool.and_false, Bool.or_true, Bool.or_false, Bool.false_eq_true, if_true, if_false]
            clear d99
            go_simp
            refine hK _ _ ⟨updU us 41 (.int .i64 ty), by simp [frmFrom, updU, d19], fun _ => ?_, (fun h => by rw [hnl] at h; cases h)⟩
            have hb2 : Below w.heap.size w (w) := Below.refl _ _
            have hs2 : StayD (fun _ => True) w (w) := StayD.below hb2
            exact ⟨(unhide HST).trans (hb2.mono (unhide HST).size), (updU_other _ _ _ _ (by decide)).trans (unhide HK9), (unhide HCL).put (fun j v h => PubA.stay hs2 (fun _ _ => trivial) j v h) (rfl) (fun j hj => by omega)⟩
          -- operation 21
          · rintro L us w ⟨hA, -⟩ hl hdep hbh hup K hK
            have hlast : L 23 = false := hbh 23 (by kernel_rfl)
            have hnl : updL L 21 23 = false := (updL_other _ _ _ (by decide)).trans hlast
            obtain ⟨hst, d99, hcl⟩ := hA hlast
            have HK9 := hide d99
            have d1 : us 22 = _ := hcl 1 (hup 1 (by decide) (by kernel_rfl))
            have d7 : us 28 = _ := hcl 7 (hup 7 (by decide) (by kernel_rfl))
            obtain ⟨aa, ca, d14, hk14⟩ := hcl 14 (hup 14 (by decide) (by kernel_rfl))
            have d14 : us 35 = _ := d14
            have d20 : us 41 = _ := hcl 20 (hup 20 (by decide) (by kernel_rfl))
            have HST := hide hst
            have HCL := hide hcl
            clear hst hcl hA hdep hbh hup hl hlast
            simp only [frmFrom, Nat.reduceAdd, Nat.reduceLeDiff, Nat.reduceEqDiff, decide_true, decide_false, Bool.and_true, Bool.and_false, Bool.or_true, Bool.or_false, Bool.false_eq_true, if_true, if_false]
            clear d99
            go_simp
            refine hK _ _ ⟨updU us 42 (.agg #[.string md, .string fn, .slice aa args.length ca, .int .i64 ty]), by simp [frmFrom, updU, d1, d14, d20, d7], fun _ => ?_, (fun h => by rw [hnl] at h; cases h)⟩
            have hb2 : Below w.heap.size w (w) := Below.refl _ _
            have hs2 : StayD (fun _ => True) w (w) := StayD.below hb2
            exact ⟨(unhide HST).trans (hb2.mono (unhide HST).size), (updU_other _ _ _ _ (by decide)).trans (unhide HK9), (unhide HCL).put (fun j v h => PubA.stay hs2 (fun _ _ => trivial) j v h) (⟨aa, ca, rfl, hk14⟩) (fun j hj => by omega)⟩
          -- operation 22
          · rintro L us w ⟨hA, -⟩ hl hdep hbh hup K hK
            have hlast : L 23 = false := hbh 23 (by kernel_rfl)
            have hnl : updL L 22 23 = false := (updL_other _ _ _ (by decide)).trans hlast
            obtain ⟨hst, d99, hcl⟩ := hA hlast
            have HK9 := hide d99
            obtain ⟨aa, ca, d21, hk21⟩ := hcl 21 (hup 21 (by decide) (by kernel_rfl))
            have d21 : us 42 = _ := d21
            have HST := hide hst
            have HCL := hide hcl
            clear hst hcl hA hdep hbh hup hl hlast
            simp only [frmFrom, Nat.reduceAdd, Nat.reduceLeDiff, Nat.reduceEqDiff, decide_true, decide_false, Bool.and_true, Bool.and_false, Bool.or_true, Bool.or_false, Bool.false_eq_true, if_true, if_false]
            clear d99
            go_simp
            refine hK _ _ ⟨updU us 43 (.slice (some ⟨w.heap.size, 0, none⟩) 1 1), by simp [frmFrom, updU, d21], fun _ => ?_, (fun h => by rw [hnl] at h; cases h)⟩
            have hb2 : Below w.heap.size w (w.alloc (.cells #[.string md, .string fn, .slice aa args.length ca, .int .i64 ty] 102)) := below_one w _
            have hs2 : StayD (fun _ => True) w (w.alloc (.cells #[.string md, .string fn, .slice aa args.length ca, .int .i64 ty] 102)) := StayD.below hb2
            exact ⟨(unhide HST).trans (hb2.mono (unhide HST).size), (updU_other _ _ _ _ (by decide)).trans (unhide HK9), (unhide HCL).put (fun j v h => PubA.stay hs2 (fun _ _ => trivial) j v h) (⟨w.heap.size, aa, ca, rfl, (unhide HST).size, by simp, Blk.new w [.string md, .string fn, .slice aa args.length ca, .int .i64 ty] _, hk21.stay (hs2.less (fun _ _ _ => trivial))⟩) (fun j hj => by omega)⟩
          -- operation 23
          · rintro L us w ⟨hA, -⟩ hl hdep hbh hup K hK
            have h24 : L 24 = false := hbh 24 (by kernel_rfl)
            obtain ⟨hst, -, hcl⟩ := hA hl
            have d0 : us 21 = _ := hcl 0 (hup 0 (by decide) (by kernel_rfl))
            obtain ⟨h, aa, ca, d22, hh1, hh2, hh3, hh4⟩ := hcl 22 (hup 22 (by decide) (by kernel_rfl))
            have d22 : us 43 = _ := d22
            have hO5 : OwnD EltS 4 102 (fun b => lo ≤ b) lo w (.slice sa ps.length sc) ps := (unhide HO).stay (StayD.below hst) (fun _ h => h)
            obtain ⟨i0, hi, hz0, hz1, hz2⟩ := info_parts infoSigL
            obtain ⟨g5, c5, w6, r6, o6, y6⟩ := hO5.more (Nat.le_trans (unhide HLO) hst.size) 84 i0 _ 64 Tryz.underlying84 hi hz0 hz1 hz2 rfl (by omega) (by omega) ⟨h, 0, none⟩ 1 [(⟨md, fn, args, ty⟩, [.string md, .string fn, .slice aa args.length ca, .int .i64 ty])] (by simp) (by
              intro p hp
              rw [List.mem_singleton] at hp
              subst hp
              refine ⟨rfl, fun u hu => ?_⟩
              simp only [List.mem_cons, List.not_mem_nil, or_false] at hu
              rcases hu with rfl | rfl | rfl | rfl <;> rfl) (fun j u hu => by
              rw [Addr.add_lit, Nat.zero_add]
              exact (hh3.1 j).trans (by simpa using hu)) (by have := unhide HLN; have := unhide HLN0; have := unhide HPK; rw [List.length_singleton]; omega) (by
              intro p hp
              rw [List.mem_singleton] at hp
              subst hp
              exact (hh4.imp (fun W hW => ⟨aa, ca, rfl, hW⟩)).less (fun b _ h => ⟨Nat.le_trans (unhide HLO) h.1, fun e => by have := (unhide HO).row.lt b e.symm; have := h.1; omega⟩))
            have hown : ∀ g, (Value.slice sa ps.length sc).ownBlock = some g → lo ≤ g := fun g hg => (hO5.row.lt g hg).1
            have hbb : Below lo wr w6 := (hst.mono (unhide HLO)).grown y6 (Nat.le_trans (unhide HLO) hst.size) hown
            have HX := hide (And.intro o6 hbb)
            clear hst hcl hA hdep hbh hup hh1 hh2 hh3 hh4 hO5 hown hbb o6 y6 hi hz0 hz1 hz2 hl
            simp only [frmFrom, Nat.reduceAdd, Nat.reduceLeDiff, Nat.reduceEqDiff, decide_true, decide_false, Bool.and_true, Bool.and_false, Bool.or_true, Bool.or_false, Bool.false_eq_true, if_true, if_false]
            refine step_runD (a := Act.mk _ _) rfl (.tmp 21) (.tmp 43) 84 rfl rfl (.slice sa ps.length sc) (.slice (some ⟨h, 0, none⟩) 1 1) (by simp [Act.eval, d0]) (by simp [Act.eval, d22]) (.slice (some ⟨g5, 0, none⟩) (ps.length + 1) c5) w6 r6 ?_
            refine hK _ _ ⟨updU us 44 (.slice (some ⟨g5, 0, none⟩) (ps.length + 1) c5), by simp [frmFrom, updU, Act.put], (fun h => by rw [updL_same] at h; cases h), fun _ => ?_⟩
            exact ⟨g5, c5, aa, ca, updU_same _ _ _, (fun h => by rw [updL_other _ _ _ (by decide), h24] at h; cases h), (unhide HX).1, (unhide HX).2⟩
          -- operation 24
          · rintro L us w ⟨-, hB2⟩ hl hdep hbh hup K hK
            have h23 : L 23 = true := (hup 23 (by decide) (by kernel_rfl))
            obtain ⟨g5, c5, aa, ca, e44, -, o6, b6⟩ := hB2 h23
            have HX := hide (And.intro o6 b6)
            clear hB2 hdep hbh hup hl o6 b6
            simp only [frmFrom, Nat.reduceAdd, Nat.reduceLeDiff, Nat.reduceEqDiff, decide_true, decide_false, Bool.and_true, Bool.and_false, Bool.or_true, Bool.or_false, Bool.false_eq_true, if_true, if_false]
            go_simp
            refine hK _ _ ⟨updU us 5 (.slice (some ⟨g5, 0, none⟩) (ps.length + 1) c5), by simp [frmFrom, updU, e44], (fun h => by rw [updL_other _ _ _ (by decide), h23] at h; cases h), fun _ => ?_⟩
            exact ⟨g5, c5, aa, ca, (updU_other _ _ _ _ (by decide)).trans e44, (fun _ => updU_same _ _ _), (unhide HX).1, (unhide HX).2⟩
        · rintro L us w ⟨-, hB2⟩ hall
          obtain ⟨g5, c5, aa, ca, e44, e5', o6, b6⟩ := hB2 (hall 23 (by decide))
          have e5'' := e5' (hall 24 (by decide))
          have HX := hide (And.intro o6 b6)
          clear hB2 hall e5' o6 b6
          simp only [frmFrom, Nat.reduceAdd, Nat.reduceLeDiff, Nat.reduceEqDiff, decide_true, decide_false, Bool.and_true, Bool.and_false, Bool.or_true, Bool.or_false, Bool.false_eq_true, if_true, if_false]
          rw [e5'']
          go_wp2
          go_roundw
          case rel =>
            obtain ⟨o6, b6⟩ := unhide HX
            refine ⟨k + 1, (ps ++ [(⟨md, fn, args, ty⟩, [.string md, .string fn, .slice aa args.length ca, .int .i64 ty])]), some ⟨g5, 0, none⟩, c5, by rw [List.length_append, List.length_singleton], by go_num, by have := unhide HPK; omega, hide (by rw [List.length_append, List.length_singleton]; have := unhide HLN; omega), hide ?_, hide ((unhide HBW).trans b6), hide ?_⟩
            · rw [List.length_append, List.length_singleton]; exact o6
            · intro p hp
              rcases List.mem_append.1 hp with hp | hp
              · exact unhide HPS p hp
              · rw [List.mem_singleton] at hp
                subst hp
                obtain ⟨x, h1, h2, h3⟩ := unhide HXM
                exact ⟨rfl, x, h1, h2, h3⟩
          case measure => have := unhide HPK; simp [intOf]; omega
    · go_wp2
      go_ret
      have hB := unhide HB1
      refine ⟨_, ps, rfl, ?_, by have := unhide HLN; omega, unhide HPS, ?_⟩
      · rw [unhide HMB0]
        have hO := (unhide HO).lower (show MB ≤ lo by rw [← unhide HLO0]; omega)
        exact ⟨hO.row, hO.one, fun p hp => (hO.els p hp).less (fun b _ h => ⟨by have h9 : lo ≤ b := h.1; have := unhide HLO0; show MB ≤ b; omega, h.2⟩)⟩
      · rw [unhide HMB0]; exact hB.trans ((unhide HBW).mono (by rw [← unhide HLO0]; omega))
end Go.Proofs.YtffabnmgcicpiaaGreat
