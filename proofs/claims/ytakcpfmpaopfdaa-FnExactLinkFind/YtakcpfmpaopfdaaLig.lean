/- The walk of spec.LinkFind. Conditions: the parts can be read, and weigh at most 2^20. -/
import Derived.Test.YtakcpfmpaopfdaaLif
namespace Go.Proofs.Ytakcpfmpaopfdaa
open Go.RowKit Go.PlainAid

def numO (o : Option TN) : Int := match o with | some t => (t.num : Int) | none => 0
/-- What LinkFind answers. -/
def findO (l : List TP) (md nm : ByteArray) : Option TN := if 8 < l.length then none else symR l md nm
set_option maxHeartbeats 2000000 in
theorem LinkFindS_any (lo : Nat) (a : Option Addr) (cap : Nat) (l : List TP) (md nm : ByteArray) (w : World) (h : Parts w lo a l) (hl : l.length ≤ maxLen) (hw : wtPas l ≤ 1048576) :
    Calls Try.prog 5 #[.slice a l.length cap, .string md, .string nm] w fun r w' => r = .returned (.tuple #[.int .i64 (numO (findO l md nm)), .bool (findO l md nm).isSome]) ∧ Below w.heap.size w w' := by
  have HX : Hid (findO l md nm = if 8 < l.length then none else symR l md nm) := hide rfl
  generalize findO l md nm = R at HX ⊢
  have HB := hide (fun (n : Nat) (hn : n ≤ l.length) (W : World) (hb : Below w.heap.size w W) => l9Base_any lo a cap l n W (h.kept hb hb.size) hl hn hw)
  have HP := hide (l9Part_any lo a cap l md w h hl)
  have HW := hide (fun (W : World) (hb : Below w.heap.size w W) => h.kept hb hb.size)
  have HBL := hide (fun k => Nat.le_trans (base_le l k) hw)
  have HL := hide hl
  unfold maxLen at hl
  clear h hw
  by_cases h8 : 8 < l.length
  · have HR : Hid (R = none) := hide (by rw [unhide HX, if_pos h8])
    go_enter Try.func5, Try.ntmps5
    go_wp2
    refine bodyPost_ret (v := .tuple #[.int .i64 0, .bool false]) (by simp [results, Try.results5, go_sem]) rfl ?_
    exact ⟨by rw [unhide HR]; rfl, Below.refl _ _⟩
  have HX1 : Hid (R = symR l md nm) := hide (by rw [unhide HX, if_neg h8])
  clear HX
  go_enter Try.func5, Try.ntmps5
  go_wp2_with fail
  refine (unhide HP).mono ?_
  rintro r w1 ⟨rfl, hb1⟩
  clear HP
  have HX2 : Hid (R = match l.findIdx? (isP md) with | none => none | some p => match l[p]? with | none => none | some x => entF x.name (baseL l p) x.obj.funs nm) := hide (unhide HX1)
  clear HX1
  have HB1 := hide hb1
  clear hb1
  cases hP : l.findIdx? (isP md) with
  | none =>
    rw [hP] at HX2
    have HR : Hid (R = none) := hide (unhide HX2)
    have e : ixI none = -1 := rfl
    rw [e]
    clear hP HX2 e
    go_wp2
    refine bodyPost_ret (v := .tuple #[.int .i64 0, .bool false]) (by simp [results, Try.results5, go_sem]) rfl ?_
    exact ⟨by rw [unhide HR]; rfl, unhide HB1⟩
  | some p =>
    rw [hP] at HX2
    have hpl := first_lt hP
    have e : ixI (some p) = (p : Int) := rfl
    rw [e]
    clear hP e
    rcases unhide HW _ (unhide HB1) with hq | ⟨b, off, rfl, hbl, hbn, hcs⟩
    · rw [hq] at hpl; simp at hpl
    obtain ⟨c0, c1, c2, d0, d1, d2, hr⟩ := hcs p hpl
    have HX3 : Hid (R = entF (l[p]'hpl).name (baseL l p) (l[p]'hpl).obj.funs nm) := hide (by rw [unhide HX2]; simp only [List.getElem?_eq_getElem hpl])
    have h1 := unhide HBL p
    have h2 := unhide HBL (p + 1)
    rw [base_step l p hpl] at h2
    have HBB := hide (unhide HB p (by omega))
    obtain ⟨x, hx⟩ : ∃ x, l[p]'hpl = x := ⟨_, rfl⟩
    obtain ⟨Bs, hBs⟩ : ∃ Bs, baseL l p = Bs := ⟨_, rfl⟩
    rw [hBs] at HBB HX3 h1 h2
    rw [hx] at hr HX3 h2
    obtain ⟨aa, ca, ba, cb, hv, _, ho⟩ := hr
    simp only [Value.agg.injEq, Array.mk.injEq, List.cons.injEq, and_true] at hv
    obtain ⟨rfl, rfl, rfl⟩ := hv
    have HF := hide (l9Fun_any lo _ x.obj nm w1 ho)
    clear hcs hx HX2 hBs ho
    go_wp2_with fail
    refine (unhide HF).mono ?_
    rintro r w2 ⟨rfl, hb2⟩
    have HB2 := hide ((unhide HB1).trans (hb2.mono (unhide HB1).size))
    clear hb2 HF d0 d1 d2
    have HX4 : Hid (R = match x.obj.funs.findIdx? (isG nm) with | some i => (x.obj.funs[i]?).map (fun f => (⟨⟨x.name, f.name⟩, Bs + i, f.pub⟩ : TN)) | none => none) := hide (unhide HX3)
    clear HX3
    cases hG : x.obj.funs.findIdx? (isG nm) with
    | none =>
      rw [hG] at HX4
      have HR : Hid (R = none) := hide (unhide HX4)
      have e : ixI none = -1 := rfl
      rw [e]
      clear hG HX4 e
      go_wp2
      refine bodyPost_ret (v := .tuple #[.int .i64 0, .bool false]) (by simp [results, Try.results5, go_sem]) rfl ?_
      exact ⟨by rw [unhide HR]; rfl, unhide HB2⟩
    | some i =>
      rw [hG] at HX4
      have hil := first_lt hG
      have e : ixI (some i) = (i : Int) := rfl
      rw [e]
      have HR : Hid (R = some ⟨⟨x.name, (x.obj.funs[i]'hil).name⟩, Bs + i, (x.obj.funs[i]'hil).pub⟩) := hide (by rw [unhide HX4]; simp only [List.getElem?_eq_getElem hil]; rfl)
      clear hG e HX4
      go_wp2_with fail
      refine (unhide HBB _ (unhide HB2)).mono ?_
      rintro r w3 ⟨rfl, hb3⟩
      have HB3 := hide ((unhide HB2).trans (hb3.mono (unhide HB2).size))
      clear hb3
      go_wp2
      refine bodyPost_ret (v := .tuple #[.int .i64 ((Bs : Int) + (i : Int)), .bool true]) (by simp [results, Try.results5, go_sem]) rfl ?_
      exact ⟨by rw [unhide HR]; simp [numO], unhide HB3⟩
end Go.Proofs.Ytakcpfmpaopfdaa
