/- The walk of l22Mods. Conditions: the reader can be read. -/
import Derived.Test.YtffabnmgcicpiaaGreatDma
import Derived.Deep.DeepMust
namespace Go.Proofs.YtffabnmgcicpiaaGreat
open Go.RowKit Go.PlainAid


/-- A module with its name; its four cells in a row. -/
structure MD where
  name : ByteArray
  mod : TM
def EltM (W : World) (x : MD) (C : List Value) : Prop := ∃ c1 c2 c3 : Value, C = [.string x.name, c1, c2, c3] ∧ IsMod W 0 W.heap.size 7 (.agg #[c1, c2, c3]) x.mod
/-- A drawn module that is not too great. -/
structure MdOk (x : MD) : Prop where
  nm : x.name.size ≤ 8
  ul : x.mod.uses.length ≤ 4
  un : ∀ u ∈ x.mod.uses, u.size ≤ 8
  fl : x.mod.funs.length ≤ 3
  fo : ∀ y ∈ x.mod.funs, FOk y
  wt : x.mod.wt ≤ 40000
theorem infoMM : (Tryz.prog.info? 64).map (fun i => (i.zero, i.size, i.bytes)) = some (some (.agg #[.string ⟨#[]⟩, .slice none 0 0, .slice none 0 0, .slice none 0 0]), 4, 88) := by kernel_rfl
def nmM (k : Nat) : ByteArray := if k = 0 then ⟨#[108, 105, 98]⟩ else if k = 1 then ⟨#[99, 111, 114, 101]⟩ else if k = 2 then ⟨#[109, 97, 116, 104]⟩ else ⟨#[97, 112, 112]⟩
theorem nmM_size (k : Nat) : (nmM k).size ≤ 4 := by unfold nmM; split <;> (try split) <;> (try split) <;> decide
theorem wordsP_snoc (l : List ByteArray) (x : ByteArray) : wordsP l ++ [(x, [.string x])] = wordsP (l ++ [x]) := by simp [wordsP]

/-- What may be called of one module more. -/
theorem sigsApp {B len cap N q q2 ug uc sg sc pc : Nat} {a pa : Option Addr} {wr W4 w5 : World} {ss ps : List (SG × List Value)} {us : List (ByteArray × List Value)}
    (hS : OwnD EltS 4 102 (fun b => b ≠ B ∧ some b ≠ some ug) wr.heap.size W4 (.slice (some ⟨sg, 0, none⟩) ss.length sc) ss) (hU : OwnD EltW 1 9 (fun b => b ≠ B ∧ some b ≠ some sg) wr.heap.size W4 (.slice (some ⟨ug, 0, none⟩) us.length uc) us)
    (hne : ug ≠ sg) (hR : RdM B a len cap N wr W4 q q2) (hB : B < wr.heap.size) (hb : Below W4.heap.size W4 w5) (hP : OwnD EltS 4 102 (fun b => W4.heap.size ≤ b) W4.heap.size w5 (.slice pa ps.length pc) ps) (hn : ss.length + ps.length ≤ 100) :
    ∃ (sg' sc' : Nat) (w6 : World), (Builtin.append_ #[84, 84] 84 #[.slice (some ⟨sg, 0, none⟩) ss.length sc, .slice pa ps.length pc]).run Tryz.prog w5 = .ok (.slice (some ⟨sg', 0, none⟩) (ss.length + ps.length) sc') w6 ∧
      OwnD EltS 4 102 (fun b => b ≠ B ∧ some b ≠ some ug) wr.heap.size w6 (.slice (some ⟨sg', 0, none⟩) (ss.length + ps.length) sc') (ss ++ ps) ∧ OwnD EltW 1 9 (fun b => b ≠ B ∧ some b ≠ some sg') wr.heap.size w6 (.slice (some ⟨ug, 0, none⟩) us.length uc) us ∧ ug ≠ sg' ∧ RdM B a len cap N wr w6 q q2 := by
  obtain ⟨is, hsi, hsz0, hsz1, hsz2⟩ := info_parts infoSigL
  have hgs := hS.row.lt sg rfl
  have hgu := hU.row.lt ug rfl
  have hws := hR.size
  have hwb := hb.size
  have hS5 := hS.staySub (StayD.below hb) (fun g hg => by have : sg = g := Option.some.inj hg; exact ⟨by omega, fun e => hne (by have := Option.some.inj e; omega)⟩)
  have hU5 := hU.staySub (StayD.below hb) (fun g hg => by have : ug = g := Option.some.inj hg; exact ⟨by omega, fun e => hne (by have := Option.some.inj e; omega)⟩)
  obtain ⟨sg', sc', w6, r6, o6, y6, l6⟩ := appAll hS5 (by omega) 84 is _ 64 Tryz.underlying84 hsi hsz0 hsz1 hsz2 rfl (by omega) (by omega) pa pc ps hP.one ((hP.readsSub (fun g hg => (hP.row.lt g hg).1)).now.srcs (by omega)) (by omega) (fun y hy => (hP.els y hy).less (fun b hbl h => by
    have h9 : W4.heap.size ≤ b := h.1
    exact ⟨⟨by omega, fun e => by have := Option.some.inj e; omega⟩, fun e => by have := Option.some.inj e; omega⟩))
  have hgn : ug ≠ sg' := by rcases l6 with l | l <;> omega
  refine ⟨sg', sc', w6, r6, o6, ?_, hgn, (hR.below hB hb).grown (v := .slice (some ⟨sg, 0, none⟩) 0 0) hB y6 (fun k hk => by have : sg = k := Option.some.inj hk; omega)⟩
  exact hU5.beside y6 (l6.imp (fun e => by rw [e]) (fun e => Nat.le_of_eq e.symm)) (fun g hg => by have : ug = g := Option.some.inj hg; exact ⟨by omega, fun e => hne (by have := Option.some.inj e; omega)⟩)

/-- One module more. -/
theorem outApp {B len cap N0 N p q q5 og oc X : Nat} {a : Option Addr} {w0 wr w5 : World} {ms : List (MD × List Value)} (hO : OwnD EltM 4 64 (fun b => w0.heap.size ≤ b) w0.heap.size wr (.slice (some ⟨og, 0, none⟩) ms.length oc) ms)
    (hR0 : RdM B a len cap N0 w0 wr p q) (hR : RdM B a len cap N wr w5 q q5) (hB : B < w0.heap.size) (hX : og < X ∧ w0.heap.size ≤ X) (nm : ByteArray) (m : TM) (a1 a2 a3 : Option Addr) (l1 k1 l2 k2 l3 k3 : Nat)
    (hm : KpD (fun b => X ≤ b) w5 (fun W => IsMod W 0 W.heap.size 7 (.agg #[.slice a1 l1 k1, .slice a2 l2 k2, .slice a3 l3 k3]) m)) (hl : ms.length ≤ 10) :
    ∃ (og' oc' : Nat) (w6 : World), (Builtin.append_ #[61, 61] 61 #[.slice (some ⟨og, 0, none⟩) ms.length oc, .slice (some ⟨w5.heap.size, 0, none⟩) 1 1]).run Tryz.prog (w5.alloc (.cells #[.string nm, .slice a1 l1 k1, .slice a2 l2 k2, .slice a3 l3 k3] 64)) = .ok (.slice (some ⟨og', 0, none⟩) (ms.length + 1) oc') w6 ∧
      OwnD EltM 4 64 (fun b => w0.heap.size ≤ b) w0.heap.size w6 (.slice (some ⟨og', 0, none⟩) (ms.length + 1) oc') (ms ++ [(⟨nm, m⟩, [.string nm, .slice a1 l1 k1, .slice a2 l2 k2, .slice a3 l3 k3])]) ∧ RdM B a len cap (N0 + N) w0 w6 p q5 ∧ (og' = og ∨ og' = w5.heap.size + 1) ∧ (∀ b, b < w5.heap.size → b ≠ og → w6.heap[b]? = w5.heap[b]?) ∧ w5.heap.size < w6.heap.size := by
  obtain ⟨is, hsi, hsz0, hsz1, hsz2⟩ := info_parts infoMM
  have hwr := hR0.size
  have hw5 := hR.size
  have hO5 : OwnD EltM 4 64 (fun b => w0.heap.size ≤ b) w0.heap.size (w5.alloc (.cells #[.string nm, .slice a1 l1 k1, .slice a2 l2 k2, .slice a3 l3 k3] 64)) (.slice (some ⟨og, 0, none⟩) ms.length oc) ms := hO.staySub ((hR.mv.stay (fun b h => by have h9 : w0.heap.size ≤ b := h; omega)).trans (StayD.below (below_one _ _))) (fun g hg => (hO.row.lt g hg).1)
  obtain ⟨og', oc', w6, r6, o6, y6, l6⟩ := hO5.moreL (by rw [alloc_size]; omega) 61 is _ 88 Tryz.underlying61 hsi hsz0 hsz1 hsz2 rfl (by omega) (by omega) ⟨w5.heap.size, 0, none⟩ 1 [(⟨nm, m⟩, [.string nm, .slice a1 l1 k1, .slice a2 l2 k2, .slice a3 l3 k3])] (by simp) (by
    intro y hy
    rw [List.mem_singleton] at hy
    subst hy
    refine ⟨rfl, fun u hu => ?_⟩
    simp only [List.mem_cons, List.not_mem_nil, or_false] at hu
    rcases hu with rfl | rfl | rfl | rfl <;> rfl) (fun i u hu => by
    rw [Addr.add_lit, Nat.zero_add, alloc_cell]
    simpa using hu) (by rw [List.length_singleton]; omega) (by
    intro y hy
    rw [List.mem_singleton] at hy
    subst hy
    exact ((hm.stay (StayD.below (below_one _ _))).imp (fun W hW => ⟨_, _, _, rfl, hW⟩)).less (fun b _ h => by have h9 : X ≤ b := h; exact ⟨by show w0.heap.size ≤ b; omega, fun e => by have : b = og := Option.some.inj e; omega⟩))
  have hz6 := y6.size
  rw [alloc_size] at hz6
  refine ⟨og', oc', w6, r6, o6, ((hR0.trans hR).alloc hB _).grown (v := .slice (some ⟨og, 0, none⟩) 0 0) hB y6 (fun k hk => by have : og = k := Option.some.inj hk; have := (hO.row.lt og rfl).1; omega), ?_, fun b hb hne => ?_, by omega⟩
  · rw [alloc_size] at l6
    exact l6.imp (fun e => (Option.some.inj (show some og = some og' from e)).symm) id
  · exact (y6.block b (by rw [alloc_size]; omega) (fun e => hne (Option.some.inj (show some b = some og from e)))).trans ((below_one w5 _).block b hb)

set_option maxRecDepth 100000 in
set_option maxHeartbeats 8000000 in
theorem l22Mods_any (B : Nat) (a : Option Addr) (len cap : Nat) (w0 : World) (p : Nat) (h : IsRd w0 B a len cap p) (hB : B < w0.heap.size) (hp : p ≤ 700000000000) :
    Calls Tryz.prog 22 #[.pointer (some ⟨B, 0, none⟩)] w0 fun r w' => ∃ (og oc : Nat) (ms : List (MD × List Value)) (q : Nat), r = .returned (.slice (some ⟨og, 0, none⟩) ms.length oc) ∧ 1 ≤ ms.length ∧ ms.length ≤ 4 ∧ OwnD EltM 4 64 (fun b => w0.heap.size ≤ b) w0.heap.size w' (.slice (some ⟨og, 0, none⟩) ms.length oc) ms ∧ (∀ x ∈ ms, MdOk x.1) ∧ RdM B a len cap 500000 w0 w' p q := by
  obtain ⟨W2, hW2⟩ : ∃ W2, W2 = (w0.alloc (.cells #[] 64)).alloc (.cells #[.string ⟨#[108, 105, 98]⟩, .string ⟨#[99, 111, 114, 101]⟩, .string ⟨#[109, 97, 116, 104]⟩, .string ⟨#[97, 112, 112]⟩, .string ⟨#[98]⟩] 9) := ⟨_, rfl⟩
  have hz2 : W2.heap.size = w0.heap.size + 2 := by rw [hW2]; simp
  have hO2 : OwnD EltM 4 64 (fun b => w0.heap.size ≤ b) w0.heap.size W2 (.slice (some ⟨w0.heap.size, 0, none⟩) 0 0) [] := by
    rw [hW2]
    exact (OwnD.made EltM 4 64 (fun b => w0.heap.size ≤ b) w0).stay (StayD.below (below_one _ _)) (fun _ h => h)
  have hN2 : Blk W2 (w0.heap.size + 1) [.string ⟨#[108, 105, 98]⟩, .string ⟨#[99, 111, 114, 101]⟩, .string ⟨#[109, 97, 116, 104]⟩, .string ⟨#[97, 112, 112]⟩, .string ⟨#[98]⟩] := by
    rw [hW2]
    have := Blk.new (w0.alloc (.cells #[] 64)) [.string ⟨#[108, 105, 98]⟩, .string ⟨#[99, 111, 114, 101]⟩, .string ⟨#[109, 97, 116, 104]⟩, .string ⟨#[97, 112, 112]⟩, .string ⟨#[98]⟩] 9
    rw [alloc_size] at this
    exact this
  have hrd2 : RdM B a len cap 0 w0 W2 p p := by rw [hW2]; exact ((RdM.refl h).alloc hB _).alloc hB _
  have HPK := hide (pick_rd B a len cap p 4 W2 hrd2.rd (by omega) (by omega))
  have HR2 := hide hrd2
  have HO2 := hide hO2
  have HN2 := hide hN2
  have HZ2 : Hid (W2.heap.size = w0.heap.size + 2 ∧ B < w0.heap.size) := hide ⟨hz2, hB⟩
  clear hz2 hO2 hN2 hrd2 h hB
  go_enter Tryz.func22, Tryz.ntmps22
  go_wp2_with fail
  rw [← hW2]
  clear hW2
  refine (unhide HPK).mono ?_
  rintro r w1 ⟨i0, rfl, i1, i2, hk1, -⟩
  have i3 := i2 (by omega)
  obtain ⟨kk, rfl⟩ := Int.eq_ofNat_of_zero_le i1
  have zz := unhide HZ2
  have HR1 := hide ((unhide HR2).trans hk1)
  have HO1 := hide ((unhide HO2).staySub (hk1.mv.stay (fun b h => by have h9 : w0.heap.size ≤ b := h; omega)) (fun g hg => by have : w0.heap.size = g := Option.some.inj hg; show w0.heap.size ≤ g; omega))
  have HN1 := hide ((unhide HN2).ofb (hk1.mv.2 (w0.heap.size + 1) (by omega) (by omega)))
  have HZ1 : Hid (w0.heap.size + 1 < w1.heap.size) := hide (by have := hk1.size; omega)
  have hk3 : kk < 4 := by omega
  have hwr : IntKind.i64.wrap (1 + (kk : Int)) = 1 + (kk : Int) := by rw [IntKind.wrap_i64]; omega
  clear i1 i2 i3 hk1 zz HPK HR2 HO2 HN2
  go_wp2
  go_loopw [3, 5] (fun ov iv wq => ∃ (k q : Nat) (ms : List (MD × List Value)) (og oc : Nat), ov = .slice (some ⟨og, 0, none⟩) ms.length oc ∧ iv = .int .i64 k ∧ ms.length + k ≤ 4 ∧ 1 ≤ ms.length + k ∧ Hid (RdM B a len cap (1 + 100010 * ms.length) w0 wq p q) ∧ Hid (OwnD EltM 4 64 (fun b => w0.heap.size ≤ b) w0.heap.size wq (.slice (some ⟨og, 0, none⟩) ms.length oc) ms) ∧ Hid (∀ x ∈ ms, MdOk x.1) ∧ Hid (Blk wq (w0.heap.size + 1) [.string ⟨#[108, 105, 98]⟩, .string ⟨#[99, 111, 114, 101]⟩, .string ⟨#[109, 97, 116, 104]⟩, .string ⟨#[97, 112, 112]⟩, .string ⟨#[98]⟩]) ∧ Hid (og ≠ w0.heap.size + 1 ∧ w0.heap.size + 1 < wq.heap.size)) (fun _ iv _ => (intOf iv).toNat)
  case atStart => exact ⟨kk + 1, _, [], w0.heap.size, 0, rfl, by go_num, by simp; omega, by simp, hide ((unhide HR1).more (by simp)), HO1, hide (fun x hx => absurd hx List.not_mem_nil), HN1, hide ⟨by omega, unhide HZ1⟩⟩
  case round =>
    clear HR1 HO1 HN1 HZ1 hwr hk3
    obtain ⟨k, q, ms, og, oc, rfl, rfl, hk4, hk1, HR, HO, HM, HN, HZ⟩ := hrel
    have hq : q ≤ p + 400041 := by have := (unhide HR).le; omega
    by_cases hk0 : 0 < k
    · have hgl := (unhide HO).row.lt og rfl
      have hzz := unhide HZ2
      have hzr := unhide HZ
      obtain ⟨Wu, hWu⟩ : ∃ Wu, Wu = (wr.alloc (.cells #[] 9)).alloc (.cells #[] 102) := ⟨_, rfl⟩
      have hzu : Wu.heap.size = wr.heap.size + 2 := by rw [hWu]; simp
      have HUu : Hid (OwnD EltW 1 9 (fun b => b ≠ B ∧ some b ≠ some (wr.heap.size + 1)) wr.heap.size Wu (.slice (some ⟨wr.heap.size, 0, none⟩) 0 0) (wordsP [])) := hide (by
        rw [hWu]
        exact (OwnD.made EltW 1 9 (fun b => b ≠ B ∧ some b ≠ some (wr.heap.size + 1)) wr).staySub (StayD.below (below_one _ _)) (fun g hg => by have : wr.heap.size = g := Option.some.inj hg; exact ⟨by omega, fun e => by have := Option.some.inj e; omega⟩))
      have HSu : Hid (OwnD EltS 4 102 (fun b => b ≠ B ∧ some b ≠ some wr.heap.size) wr.heap.size Wu (.slice (some ⟨wr.heap.size + 1, 0, none⟩) 0 0) []) := hide (by
        have := OwnD.made EltS 4 102 (fun b => b ≠ B ∧ some b ≠ some wr.heap.size) (wr.alloc (.cells #[] 9))
        rw [alloc_size] at this
        rw [hWu]
        exact this.lower (Nat.le_succ _))
      have HRu : Hid (RdM B a len cap 0 wr Wu q q) := hide (by rw [hWu]; exact ((RdM.refl (unhide HR).rd).alloc (by omega) _).alloc (by omega) _)
      have HZu : Hid (wr.heap.size + 2 ≤ Wu.heap.size ∧ B < w0.heap.size ∧ w0.heap.size ≤ og ∧ og < wr.heap.size ∧ w0.heap.size + 1 < wr.heap.size ∧ og ≠ w0.heap.size + 1) := hide (by omega)
      clear hzu hgl hzz hzr
      go_wp2
      rw [← hWu]
      clear hWu
      have hml : ms.length ≤ 3 := by omega
      go_loopw [6, 7, 8] (fun uv sv jv wq => ∃ (j q2 : Nat) (us : List ByteArray) (ug uc : Nat) (ss : List (SG × List Value)) (sg sc : Nat), uv = .slice (some ⟨ug, 0, none⟩) us.length uc ∧ sv = .slice (some ⟨sg, 0, none⟩) ss.length sc ∧ jv = .int .i64 j ∧ j ≤ ms.length ∧ us.length ≤ j ∧ Hid (RdM B a len cap j wr wq q q2) ∧ Hid (OwnD EltW 1 9 (fun b => b ≠ B ∧ some b ≠ some sg) wr.heap.size wq (.slice (some ⟨ug, 0, none⟩) us.length uc) (wordsP us)) ∧ Hid (OwnD EltS 4 102 (fun b => b ≠ B ∧ some b ≠ some ug) wr.heap.size wq (.slice (some ⟨sg, 0, none⟩) ss.length sc) ss) ∧ Hid (ug ≠ sg) ∧ Hid (∀ x ∈ us, x.size ≤ 8) ∧ Hid ((∀ x ∈ ss, SgOk x.1) ∧ ss.length ≤ 3 * j)) (fun _ _ jv _ => ms.length - (intOf jv).toNat)
      case atStart => exact ⟨0, q, [], wr.heap.size, 0, [], wr.heap.size + 1, 0, rfl, rfl, by go_num, Nat.zero_le _, Nat.le_refl _, HRu, HUu, HSu, hide (by omega), hide (fun x hx => absurd hx List.not_mem_nil), hide ⟨fun x hx => absurd hx List.not_mem_nil, by simp⟩⟩
      case round =>
        rename World => wo
        clear HRu HUu HSu
        obtain ⟨j, q2, us, ug, uc, ss, sg, sc, rfl, rfl, rfl, hj, huj, HRI, HU, HSG, HNE, HUN, HSN⟩ := hrel
        have hu4 : us.length < 4 := by omega
        by_cases hjm : j < ms.length
        · have hzz := unhide HZu
          have hgu := (unhide HU).row.lt ug rfl
          have hgs := (unhide HSG).row.lt sg rfl
          have hri := unhide HRI
          have hle := hri.le
          have HPK2 := hide (pick_rd B a len cap q2 3 wo hri.rd (by omega) (by omega))
          obtain ⟨x, hx⟩ : ∃ x, (ms[j]'hjm).1 = x := ⟨_, rfl⟩
          have hxo : MdOk x := by rw [← hx]; exact unhide HM _ (List.getElem_mem hjm)
          obtain ⟨c1, c2, c3, hc, hmd⟩ := ((unhide HO).els _ (List.getElem_mem hjm)).now
          rw [hx] at hc hmd
          obtain ⟨a1, a2, a3, k1, k2, k3, hv, -, -, -, -⟩ := hmd
          simp only [Value.agg.injEq, Array.mk.injEq, List.cons.injEq, and_true] at hv
          obtain ⟨rfl, rfl, rfl⟩ := hv
          have HEL := hide (fun (W : World) (hW : StayD (fun b => w0.heap.size ≤ b) wr W) => show (∀ i, i < 4 → W.cell? ⟨og, j * 4 + i, none⟩ = ([.string x.name, .slice a1 x.mod.uses.length k1, .slice a2 x.mod.funs.length k2, .slice a3 x.mod.main.length k3])[i]?) ∧ IsMod W 0 W.heap.size 7 (.agg #[.slice a1 x.mod.uses.length k1, .slice a2 x.mod.funs.length k2, .slice a3 x.mod.main.length k3]) x.mod from by
            have hox := (unhide HO).staySub hW (fun g hg => by have : og = g := Option.some.inj hg; show w0.heap.size ≤ g; have := unhide HZu; omega)
            refine ⟨fun i hi => by rw [← hc]; exact hox.cell j hjm i hi, ?_⟩
            obtain ⟨d1, d2, d3, e, hm⟩ := (hox.els _ (List.getElem_mem hjm)).now
            rw [hc] at e
            rw [hx] at hm
            simp only [List.cons.injEq, and_true] at e
            obtain ⟨-, rfl, rfl, rfl⟩ := e
            exact hm)
          have HXO := hide hxo
          have HGG : Hid (wr.heap.size ≤ ug ∧ ug < wo.heap.size ∧ wr.heap.size ≤ sg ∧ sg < wo.heap.size ∧ q2 ≤ q + j ∧ wr.heap.size ≤ wo.heap.size) := hide (by have := hri.size; omega)
          clear hzz hgu hgs hri hle hx hxo hc
          go_wp2_with fail
          refine (unhide HPK2).mono ?_
          rintro r w3 ⟨i3, rfl, -, -, hk3, -⟩
          by_cases hi3 : 0 < i3
          · have hzz := unhide HZu
            have hgg := unhide HGG
            have hne := unhide HNE
            have hR3 := (unhide HRI).trans hk3
            have hW3 : StayD (fun b => w0.heap.size ≤ b) wr w3 := hR3.mv.stay (fun b h => by have h9 : w0.heap.size ≤ b := h; omega)
            have e0 : w3.cell? ⟨og, j * 4, none⟩ = some (.string x.name) := (unhide HEL w3 hW3).1 0 (by omega)
            have s13 : ∀ S : Nat → Prop, (∀ b, S b → b ≠ B) → StayD S wo (w3.alloc (.cells #[.string x.name] 9)) := fun S h => (hk3.mv.stay h).trans (StayD.below (below_one _ _))
            have hsz3 := hk3.size
            have hU3 := (unhide HU).staySub (s13 _ (fun b h => h.1)) (fun g hg => by have : ug = g := Option.some.inj hg; exact ⟨by omega, fun e => hne (by have := Option.some.inj e; omega)⟩)
            have hS3 := (unhide HSG).staySub (s13 _ (fun b h => h.1)) (fun g hg => by have : sg = g := Option.some.inj hg; exact ⟨by omega, fun e => hne (by have := Option.some.inj e; omega)⟩)
            have hxn := (unhide HXO).nm
            obtain ⟨iw, hwi, hwz0, hwz1, hwz2⟩ := info_parts infoW
            rw [← wordsP_len us] at hU3
            obtain ⟨ug', uc', W4, r4, o4, y4, l4⟩ := hU3.moreL (by rw [alloc_size]; omega) 23 iw _ 16 Tryz.underlying23 hwi hwz0 hwz1 hwz2 rfl (by omega) (by omega) ⟨w3.heap.size, 0, none⟩ 1 [(x.name, [.string x.name])] (by simp) (by
              intro y hy
              rw [List.mem_singleton] at hy
              subst hy
              exact ⟨rfl, fun u hu => by rw [List.mem_singleton] at hu; subst hu; rfl⟩) (fun i u hu => by
              rw [Addr.add_lit, Nat.zero_add, alloc_cell]
              simpa using hu) (by rw [wordsP_len, List.length_singleton]; omega) (by
              intro y hy
              rw [List.mem_singleton] at hy
              subst hy
              exact fun _ _ => ⟨rfl, by unfold maxLen; show x.name.size ≤ _; omega⟩)
            have l4 : ug = ug' ∨ ug' = w3.heap.size + 1 := by
              rw [alloc_size] at l4
              exact l4.imp (fun e => Option.some.inj (show some ug = some ug' from e)) id
            have hS4 := hS3.beside y4 (l4.imp (fun e => by rw [e]) (fun e => by rw [alloc_size]; omega)) (fun g hg => by have : sg = g := Option.some.inj hg; exact ⟨by omega, fun e => hne (by have := Option.some.inj (show some g = some ug from e); omega)⟩)
            have hne4 : ug' ≠ sg := by rcases l4 with l | l <;> omega
            have hR4 := (hR3.alloc (by omega) (.cells #[.string x.name] 9)).grown (by omega) y4 (fun k hk => by have : ug = k := Option.some.inj hk; omega)
            have hW4 : StayD (fun b => w0.heap.size ≤ b) wr W4 := hR4.mv.stay (fun b h => by have h9 : w0.heap.size ≤ b := h; omega)
            have hel4 := unhide HEL W4 hW4
            have q0 : W4.cell? ⟨og, j * 4, none⟩ = some (.string x.name) := hel4.1 0 (by omega)
            have q1 : W4.cell? ⟨og, j * 4 + 1, none⟩ = some (.slice a1 x.mod.uses.length k1) := hel4.1 1 (by omega)
            have q2x : W4.cell? ⟨og, j * 4 + 1 + 1, none⟩ = some (.slice a2 x.mod.funs.length k2) := hel4.1 2 (by omega)
            have q3 : W4.cell? ⟨og, j * 4 + 1 + 2, none⟩ = some (.slice a3 x.mod.main.length k3) := hel4.1 3 (by omega)
            have HPUB := hide (fun (W : World) (hb : Below W4.heap.size W4 W) => l22Pub_any 0 7 x.name _ x.mod W (IsMod.kept 7 hb hb.size _ _ hel4.2) (by have := (unhide HXO).fl; omega) (fun y hy => by have := ((unhide HXO).fo y hy).2.1; omega))
            rw [wordsP_snoc, wordsP_len, List.length_singleton] at o4
            rw [wordsP_len, List.length_singleton] at r4
            have HU4 := hide o4
            have HS4 := hide hS4
            have HN4 := hide hne4
            have HR4 := hide hR4
            have HUL := hide hu4
            clear hzz hgg hne hR3 hW3 s13 hsz3 hU3 hS3 hxn hwi hwz0 hwz1 hwz2 y4 l4 hS4 hne4 hR4 hW4 hel4 o4
            go_wp2_with (at_builtin; go_must (refine wpList_runD rfl (.tmp 34) (.tmp 40) 23 rfl rfl (.slice (some ⟨ug, 0, none⟩) us.length uc) (.slice (some ⟨w3.heap.size, 0, none⟩) 1 1) rfl rfl (.slice (some ⟨ug', 0, none⟩) (us.length + 1) uc') W4 r4 ?_))
            clear r4 e0
            go_region_law (first
              | (refine step_runD rfl (.tmp 42) (.tmp 53) 84 rfl rfl (.slice (some ⟨sg, 0, none⟩) ss.length sc) (.slice pa ps.length pc) rfl rfl (.slice (some ⟨sg', 0, none⟩) (ss.length + ps.length) sc') w6 (by exact r6) ?_)
              | (go_simp; go_at_call 36; go_must (refine (unhide HPUB _ (Below.refl _ _).drew).mono ?_; rintro r w5 ⟨v5, ps, rfl, hop, hpl, hpn, hb5⟩; obtain ⟨pa, pc, rfl, -⟩ := hop.form; have hb5' : Below W4.heap.size W4 w5 := (Below.refl _ W4).drew.trans hb5; obtain ⟨sg', sc', w6, r6, o6, u6, n6, d6⟩ := sigsApp (us := wordsP (us ++ [x.name])) (unhide HS4) (by rw [wordsP_len, List.length_append, List.length_singleton]; exact unhide HU4) (unhide HN4) (unhide HR4) (by have := unhide HZu; omega) hb5' hop (by have := (unhide HSN).2; have := (unhide HXO).fl; omega); have HO6 := hide o6; have HU6 := hide u6; have HN6 := hide n6; have HD6 := hide d6; have HPL := hide hpl; have HPN := hide hpn; clear hop hb5 hb5' o6 u6 n6 d6 hpl hpn)))
            all_goals
              go_wp2
              go_roundw
              case rel =>
                refine ⟨j + 1, q2 + 1, us ++ [x.name], ug', uc', ss ++ ps, sg', sc', by rw [List.length_append, List.length_singleton], by rw [List.length_append], by go_num, by omega, by rw [List.length_append, List.length_singleton]; omega, HD6, hide ?_, hide ?_, HN6, hide ?_, hide ⟨?_, ?_⟩⟩
                · have := unhide HU6
                  rw [wordsP_len] at this
                  exact this
                · rw [List.length_append]; exact unhide HO6
                · intro y hy
                  rcases List.mem_append.1 hy with hy | hy
                  · exact unhide HUN y hy
                  · rw [List.mem_singleton] at hy
                    subst hy
                    exact (unhide HXO).nm
                · intro y hy
                  rcases List.mem_append.1 hy with hy | hy
                  · exact (unhide HSN).1 y hy
                  · obtain ⟨h1, z, hz, h2, h3⟩ := unhide HPN y hy
                    have hz2 := (unhide HXO).fo z hz
                    exact ⟨by rw [h1]; exact (unhide HXO).nm, by rw [h2]; exact hz2.1, by have := hz2.2.1; omega⟩
                · rw [List.length_append]
                  have h1 := (unhide HSN).2
                  have h2 := unhide HPL
                  have h3 := (unhide HXO).fl
                  omega
              case measure => simp [intOf]; omega
          · go_wp2
            go_roundw
            case rel => exact ⟨j + 1, _, us, ug, uc, ss, sg, sc, rfl, rfl, by go_num, by omega, by omega, hide ((unhide HRI).trans hk3), hide ((unhide HU).staySub (hk3.mv.stay (fun b h => h.1)) (fun g hg => by have : ug = g := Option.some.inj hg; have := unhide HGG; have := unhide HZu; exact ⟨by omega, fun e => unhide HNE (by have := Option.some.inj e; omega)⟩)), hide ((unhide HSG).staySub (hk3.mv.stay (fun b h => h.1)) (fun g hg => by have : sg = g := Option.some.inj hg; have := unhide HGG; have := unhide HZu; exact ⟨by omega, fun e => unhide HNE (by have := Option.some.inj e; omega)⟩)), HNE, HUN, hide ⟨(unhide HSN).1, by have := (unhide HSN).2; omega⟩⟩
            case measure => simp [intOf]; omega
        · obtain ⟨nm, hnm⟩ : ∃ nm, nmM ms.length = nm := ⟨_, rfl⟩
          have hri := unhide HRI
          have hzz := unhide HZu
          have hrs := hri.size
          have hnb : Blk wo (w0.heap.size + 1) [.string ⟨#[108, 105, 98]⟩, .string ⟨#[99, 111, 114, 101]⟩, .string ⟨#[109, 97, 116, 104]⟩, .string ⟨#[97, 112, 112]⟩, .string ⟨#[98]⟩] := (unhide HN).ofb (hri.mv.2 _ (by omega) (by omega))
          have hnk : wo.cell? ⟨w0.heap.size + 1, ms.length, none⟩ = some (.string nm) := by
            rw [← hnm]
            have h3 : ms.length = 0 ∨ ms.length = 1 ∨ ms.length = 2 ∨ ms.length = 3 := by omega
            rcases h3 with e | e | e | e <;> rw [e]
            · exact hnb.1 0
            · exact hnb.1 1
            · exact hnb.1 2
            · exact hnb.1 3
          have hns : nm.size ≤ 4 := by rw [← hnm]; exact nmM_size _
          have hgu := (unhide HU).row.lt ug rfl
          have hgs := (unhide HSG).row.lt sg rfl
          have hne := unhide HNE
          have HMOD := hide (l22Mod_any B a len cap (some ⟨ug, 0, none⟩) uc us (some ⟨sg, 0, none⟩) sc ss wo.drew q2 (hri.drew).rd (by show B < wo.heap.size; omega) (by have := hri.le; omega)
            (((((unhide HU).readsSub (fun g hg => by have : ug = g := Option.some.inj hg; exact ⟨by omega, fun e => hne (by have := Option.some.inj e; omega)⟩)).less (fun b _ h => h.1)).imp (fun W hW => hW.wds)).stay (StayD.refl _ wo).drew) (by omega) (unhide HUN)
            ((((unhide HSG).readsSub (fun g hg => by have : sg = g := Option.some.inj hg; exact ⟨by omega, fun e => hne (by have := Option.some.inj e; omega)⟩)).less (fun b _ h => h.1)).stay (StayD.refl _ wo).drew) ⟨(unhide HSN).1, by have := (unhide HSN).2; omega⟩)
          have HNB := hide hnb
          have HNS := hide hns
          have HNM := hide hnm
          have HWO : Hid (w0.heap.size + 1 < wo.heap.size ∧ B < w0.heap.size ∧ og < wo.heap.size ∧ w0.heap.size ≤ og ∧ w0.heap.size ≤ wo.heap.size ∧ og ≠ w0.heap.size + 1 ∧ wr.heap.size ≤ wo.heap.size) := hide (by omega)
          have hm5 : (ms.length : Int) < 5 := by omega
          clear hri hzz hrs hnb hns hgu hgs hne hnm
          go_wp2
          go_region_law (first
            | (refine step_runD rfl (.tmp 55) (.tmp 66) 61 rfl rfl (.slice (some ⟨og, 0, none⟩) ms.length oc) (.slice (some ⟨w5.heap.size, 0, none⟩) 1 1) rfl rfl (.slice (some ⟨og', 0, none⟩) (ms.length + 1) oc') w6 (by exact r6) ?_)
            | (go_simp; go_at_call 37; go_must (refine (unhide HMOD).mono ?_; rintro r w5 ⟨v5, m5, q5, rfl, hk5, hul5, hun5, hfl5, hfo5, hwt5, hR5⟩; obtain ⟨a1, a2, a3, k1, k2, k3, hv5, -, -, -, -⟩ := hk5.now; subst hv5; have hR5' : RdM B a len cap 100000 wo w5 q2 q5 := ⟨hR5.rd, (MovedG.refl B wo).drew.trans hR5.mv, hR5.le⟩; obtain ⟨og', oc', w6, r6, o6, d6, l6, s6, z6⟩ := outApp (unhide HO) (unhide HR) ((unhide HRI).trans hR5') (unhide HWO).2.1 (X := wo.heap.size) ⟨(unhide HWO).2.2.1, (unhide HWO).2.2.2.2.1⟩ nm m5 a1 a2 a3 _ k1 _ k2 _ k3 hk5 (by omega); have hnk5 : w5.cell? ⟨w0.heap.size + 1, ms.length, none⟩ = some (.string nm) := (World.cell?_of_block (w := wo) (a := ⟨w0.heap.size + 1, ms.length, none⟩) (hR5'.mv.2 (w0.heap.size + 1) (unhide HWO).1 (show w0.heap.size + 1 ≠ B by have h9 := unhide HWO; omega))).trans hnk; have HALL := hide (And.intro o6 (And.intro d6 (And.intro l6 (And.intro s6 z6)))); have HMM : Hid (MdOk ⟨nm, m5⟩) := hide ⟨by have := unhide HNS; show nm.size ≤ 8; omega, hul5, hun5, hfl5, hfo5, hwt5⟩; have HR5 := hide hR5'; clear hk5 hul5 hun5 hfl5 hfo5 hwt5 hR5 hR5' o6 d6 l6 s6 z6)))
          all_goals
            go_wp2
            go_roundw
            case rel =>
              obtain ⟨o6, d6, l6, s6, z6⟩ := unhide HALL
              have h9 := unhide HWO
              have hz5 := (unhide HR5).size
              have hnb6 : Blk w6 (w0.heap.size + 1) [.string ⟨#[108, 105, 98]⟩, .string ⟨#[99, 111, 114, 101]⟩, .string ⟨#[109, 97, 116, 104]⟩, .string ⟨#[97, 112, 112]⟩, .string ⟨#[98]⟩] := ((unhide HNB).ofb ((unhide HR5).mv.2 (w0.heap.size + 1) h9.1 (by omega))).ofb (s6 (w0.heap.size + 1) (by omega) (by omega))
              refine ⟨k - 1, q5, ms ++ [(⟨nm, m5⟩, [.string nm, .slice a1 m5.uses.length k1, .slice a2 m5.funs.length k2, .slice a3 m5.main.length k3])], og', oc', by rw [List.length_append, List.length_singleton], by go_num, by rw [List.length_append, List.length_singleton]; omega, by rw [List.length_append, List.length_singleton]; omega, hide ?_, hide ?_, hide ?_, hide hnb6, hide ⟨by rcases l6 with l | l <;> omega, by omega⟩⟩
              · rw [List.length_append, List.length_singleton]
                exact d6.more (by omega)
              · rw [List.length_append, List.length_singleton]
                exact o6
              · intro y hy
                rcases List.mem_append.1 hy with hy | hy
                · exact unhide HM y hy
                · rw [List.mem_singleton] at hy
                  subst hy
                  exact unhide HMM
            case measure => simp [intOf]; omega
    · obtain rfl : k = 0 := by omega
      go_wp2
      go_ret
      exact ⟨og, oc, ms, q, rfl, by omega, by omega, unhide HO, unhide HM, (unhide HR).more (by omega)⟩
end Go.Proofs.YtffabnmgcicpiaaGreat
