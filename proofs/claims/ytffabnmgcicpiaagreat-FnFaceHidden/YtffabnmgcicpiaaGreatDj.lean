/- The walk of l22Faces. Conditions: the modules can be read. -/
import Derived.Test.YtffabnmgcicpiaaGreatDn
import Derived.Test.YtffabnmgcicpiaaGreatGfq
import Derived.Deep.DeepMust
namespace Go.Proofs.YtffabnmgcicpiaaGreat
open Go.RowKit Go.PlainAid


theorem putR_lenJ (s : TS) : ∀ l : List TS, (putR s l).length = l.length + 1
  | [] => rfl
  | t :: l => by
    unfold putR
    split <;> simp [putR_lenJ s l]
theorem foldR_lenJ : ∀ (l acc : List TS), (l.foldl (fun acc s => putR s acc) acc).length = acc.length + l.length
  | [], acc => by simp
  | x :: t, acc => by rw [List.foldl_cons, foldR_lenJ t, putR_lenJ, List.length_cons]; omega
theorem faceL_lenJ (m : TM) : (faceL m).length ≤ m.funs.length := by
  unfold faceL
  split
  · unfold putAll
    rw [foldR_lenJ]
    have := pubs_len m.funs
    simp only [List.length_nil]; omega
  · simp
/-- A face of a module, its two cells in a row. -/
structure YD where
  mod : ByteArray
  sigs : List TS
def EltY (W : World) (y : YD) (C : List Value) : Prop := ∃ (a : Option Addr) (c : Nat), C = [.string y.mod, .slice a y.sigs.length c] ∧ IsSigs (IsSig W 0 W.heap.size) W 0 W.heap.size a y.sigs
structure YOk (y : YD) : Prop where
  nm : y.mod.size ≤ 8
  sl : y.sigs.length ≤ 3
  so : ∀ s ∈ y.sigs, s.name.size ≤ 8 ∧ s.args.length ≤ 4
theorem infoY : (Tryz.prog.info? 88).map (fun i => (i.zero, i.size, i.bytes)) = some (some (.agg #[.string ⟨#[]⟩, .slice none 0 0]), 2, 40) := by kernel_rfl
theorem IsSigs.kpJ {w : World} {b0 : Nat} {a : Option Addr} {l : List TS} (h : IsSigs (IsSig w b0 w.heap.size) w b0 w.heap.size a l) : KpD (fun b => b0 ≤ b) w (fun W => IsSigs (IsSig W 0 W.heap.size) W 0 W.heap.size a l) := fun _ hW => h.mono (fun v e he => IsSig.same (fun b h1 h2 => hW.2 b h2 h1) (Nat.zero_le _) hW.1 v e he) (fun b h1 h2 => hW.2 b h2 h1) (Nat.zero_le _) hW.1

/-- One face more. -/
theorem faceApp {fg fc : Nat} {w0 wr w5 : World} {ys : List (YD × List Value)} (hO : OwnD EltY 2 88 (fun b => w0.heap.size ≤ b) w0.heap.size wr (.slice (some ⟨fg, 0, none⟩) ys.length fc) ys) (hB : Below w0.heap.size w0 wr) (hb : Below wr.heap.size wr w5)
    (nm : ByteArray) (l : List TS) (a5 : Option Addr) (c5 : Nat) (hs : IsSigs (IsSig w5 wr.heap.size w5.heap.size) w5 wr.heap.size w5.heap.size a5 l) (hn : ys.length ≤ 10) :
    ∃ (fg' fc' : Nat) (w6 : World), (Builtin.append_ #[39, 39] 39 #[.slice (some ⟨fg, 0, none⟩) ys.length fc, .slice (some ⟨w5.heap.size, 0, none⟩) 1 1]).run Tryz.prog (w5.alloc (.cells #[.string nm, .slice a5 l.length c5] 88)) = .ok (.slice (some ⟨fg', 0, none⟩) (ys.length + 1) fc') w6 ∧
      OwnD EltY 2 88 (fun b => w0.heap.size ≤ b) w0.heap.size w6 (.slice (some ⟨fg', 0, none⟩) (ys.length + 1) fc') (ys ++ [(⟨nm, l⟩, [.string nm, .slice a5 l.length c5])]) ∧ Below w0.heap.size w0 w6 := by
  obtain ⟨is, hsi, hsz0, hsz1, hsz2⟩ := info_parts infoY
  have hgl := hO.row.lt fg rfl
  have hw5 := hb.size
  have hO5 := hO.staySub ((StayD.below hb).trans (StayD.below (below_one w5 (.cells #[.string nm, .slice a5 l.length c5] 88)))) (fun g hg => (hO.row.lt g hg).1)
  obtain ⟨fg', fc', w6, r6, o6, y6, l6⟩ := hO5.moreL (by rw [alloc_size]; omega) 39 is _ 40 Tryz.underlying39 hsi hsz0 hsz1 hsz2 rfl (by omega) (by omega) ⟨w5.heap.size, 0, none⟩ 1 [(⟨nm, l⟩, [.string nm, .slice a5 l.length c5])] (by simp) (by
    intro y hy
    rw [List.mem_singleton] at hy
    subst hy
    refine ⟨rfl, fun u hu => ?_⟩
    simp only [List.mem_cons, List.not_mem_nil, or_false] at hu
    rcases hu with rfl | rfl <;> rfl) (fun i u hu => by
    rw [Addr.add_lit, Nat.zero_add, alloc_cell]
    simpa using hu) (by rw [List.length_singleton]; omega) (by
    intro y hy
    rw [List.mem_singleton] at hy
    subst hy
    exact ((hs.kpJ.stay (StayD.below (below_one _ _))).imp (fun W hW => ⟨_, _, rfl, hW⟩)).less (fun b _ h => by have h9 : wr.heap.size ≤ b := h; exact ⟨by show w0.heap.size ≤ b; omega, fun e => by have : b = fg := Option.some.inj e; omega⟩))
  exact ⟨fg', fc', w6, r6, o6, ((hB.trans (hb.mono (by omega))).trans ((below_one w5 _).mono (by omega))).grown y6 (by rw [alloc_size]; omega) (fun k hk => by have : fg = k := Option.some.inj hk; omega)⟩

set_option maxRecDepth 100000 in
set_option maxHeartbeats 8000000 in
theorem l22Faces_any (ma : Option Addr) (oc : Nat) (ms : List (MD × List Value)) (w0 : World) (hms : ∀ W, Below w0.heap.size w0 W → ReadD EltM 4 ma ms W) (hmo : ∀ x ∈ ms, MdOk x.1) (hml : ms.length ≤ 10) :
    Calls Tryz.prog 23 #[.slice ma ms.length oc] w0 fun r w' => ∃ (fg fc : Nat) (ys : List (YD × List Value)), r = .returned (.slice (some ⟨fg, 0, none⟩) ys.length fc) ∧ ys.length = ms.length ∧ OwnD EltY 2 88 (fun b => w0.heap.size ≤ b) w0.heap.size w' (.slice (some ⟨fg, 0, none⟩) ys.length fc) ys ∧ (∀ y ∈ ys, YOk y.1) ∧ Below w0.heap.size w0 w' := by
  obtain ⟨W1, hW1⟩ : ∃ W1, W1 = w0.alloc (.cells #[] 88) := ⟨_, rfl⟩
  have HB1 : Hid (Below w0.heap.size w0 W1) := hide (by rw [hW1]; exact below_one w0 _)
  have HO1 : Hid (OwnD EltY 2 88 (fun b => w0.heap.size ≤ b) w0.heap.size W1 (.slice (some ⟨w0.heap.size, 0, none⟩) 0 0) []) := hide (by rw [hW1]; exact OwnD.made EltY 2 88 (fun b => w0.heap.size ≤ b) w0)
  have HMS := hide hms
  have HMO := hide hmo
  clear hms hmo
  go_enter Tryz.func23, Tryz.ntmps23
  go_wp2
  rw [← hW1]
  clear hW1
  go_loopw [3, 4] (fun ov iv wq => ∃ (k : Nat) (ys : List (YD × List Value)) (fg fc : Nat), ov = .slice (some ⟨fg, 0, none⟩) ys.length fc ∧ iv = .int .i64 k ∧ k ≤ ms.length ∧ Hid (ys.length = k) ∧ Hid (OwnD EltY 2 88 (fun b => w0.heap.size ≤ b) w0.heap.size wq (.slice (some ⟨fg, 0, none⟩) ys.length fc) ys) ∧ Hid (Below w0.heap.size w0 wq) ∧ Hid (∀ y ∈ ys, YOk y.1)) (fun _ iv _ => ms.length - (intOf iv).toNat)
  case atStart => exact ⟨0, [], w0.heap.size, 0, rfl, by go_num, Nat.zero_le _, hide rfl, HO1, HB1, hide (fun y hy => absurd hy List.not_mem_nil)⟩
  case round =>
    clear HO1 HB1
    obtain ⟨k, ys, fg, fc, rfl, rfl, hk, HL, HO, HB, HY⟩ := hrel
    by_cases hp : k < ms.length
    · rcases unhide HMS wr (unhide HB) with h0 | ⟨g, rfl, hg, hc⟩
      · rw [h0] at hp; simp at hp
      obtain ⟨x, hx⟩ : ∃ x, (ms[k]'hp).1 = x := ⟨_, rfl⟩
      have hxo : MdOk x := by rw [← hx]; exact unhide HMO _ (List.getElem_mem hp)
      obtain ⟨hcl, -, c1, c2, c3, hcc, hmd⟩ := hc k hp
      rw [hx] at hcc hmd
      obtain ⟨a1, a2, a3, k1, k2, k3, hv, -, -, -, -⟩ := id hmd
      simp only [Value.agg.injEq, Array.mk.injEq, List.cons.injEq, and_true] at hv
      obtain ⟨rfl, rfl, rfl⟩ := hv
      rw [hcc] at hcl
      have q0 : wr.cell? ⟨g, k * 4, none⟩ = some (.string x.name) := hcl 0 (by omega)
      have q1 : wr.cell? ⟨g, k * 4 + 1, none⟩ = some (.slice a1 x.mod.uses.length k1) := hcl 1 (by omega)
      have q2 : wr.cell? ⟨g, k * 4 + 1 + 1, none⟩ = some (.slice a2 x.mod.funs.length k2) := hcl 2 (by omega)
      have q3 : wr.cell? ⟨g, k * 4 + 1 + 2, none⟩ = some (.slice a3 x.mod.main.length k3) := hcl 3 (by omega)
      have HFO := hide (fun (W : World) (hb : Below wr.heap.size wr W) => FaceOfQ_any 0 7 _ x.mod W (IsMod.kept 7 hb hb.size _ _ hmd) (Nat.le_trans hxo.wt (by omega)))
      have HGL : Hid (g < wr.heap.size ∧ fg < wr.heap.size ∧ w0.heap.size ≤ wr.heap.size ∧ w0.heap.size ≤ fg) := hide ⟨hg, ((unhide HO).row.lt fg rfl).2, (unhide HB).size, ((unhide HO).row.lt fg rfl).1⟩
      have HXO := hide hxo
      have HQ0 := hide q0
      have HPP := hide hp
      clear hc hx hxo hcl hcc hmd hg
      have hfs : (faceL x.mod).length ≤ 3 := Nat.le_trans (faceL_lenJ _) (unhide HXO).fl
      go_wp2
      go_region_law (first
        | (refine step_runD rfl (.tmp 12) (.tmp 25) 39 rfl rfl (.slice (some ⟨fg, 0, none⟩) ys.length fc) (.slice (some ⟨w5.heap.size, 0, none⟩) 1 1) rfl rfl (.slice (some ⟨fg', 0, none⟩) (ys.length + 1) fc') w6 (by exact r6) ?_)
        | (go_simp; go_at_call 8; go_must (refine (unhide HFO _ (Below.refl _ _).drew).mono ?_; rintro r w5 ⟨v5, rfl, hrq, hb5⟩; obtain ⟨a5, c5, rfl, hsg, hsn⟩ := hrq; have hb5' : Below wr.heap.size wr w5 := (Below.refl _ wr).drew.trans hb5; obtain ⟨fg', fc', w6, r6, o6, b6⟩ := faceApp (unhide HO) (unhide HB) hb5' x.name (faceL x.mod) a5 c5 hsg (by have := unhide HL; omega); have q05 : w5.cell? ⟨g, k * 4, none⟩ = some (.string x.name) := (hb5'.cell (p := ⟨g, k * 4, none⟩) (unhide HGL).1).trans (unhide HQ0); have HALL := hide (And.intro o6 b6); have HSN := hide hsn; clear hsg hb5 hb5' o6 b6 hsn)))
      all_goals
        go_wp2
        go_roundw
        case rel =>
          refine ⟨k + 1, ys ++ [(⟨x.name, faceL x.mod⟩, [.string x.name, .slice a5 (faceL x.mod).length c5])], fg', fc', by rw [List.length_append, List.length_singleton], by go_num, by have := unhide HPP; omega, hide (by rw [List.length_append, List.length_singleton, unhide HL]), hide ?_, hide (unhide HALL).2, hide ?_⟩
          · rw [List.length_append, List.length_singleton]; exact (unhide HALL).1
          · intro y hy
            rcases List.mem_append.1 hy with hy | hy
            · exact unhide HY y hy
            · rw [List.mem_singleton] at hy
              subst hy
              exact ⟨(unhide HXO).nm, hfs, unhide HSN⟩
        case measure => have := unhide HPP; simp [intOf]; omega
    · go_wp2
      go_ret
      exact ⟨fg, fc, ys, rfl, by have := unhide HL; omega, unhide HO, unhide HY, unhide HB⟩
end Go.Proofs.YtffabnmgcicpiaaGreat
