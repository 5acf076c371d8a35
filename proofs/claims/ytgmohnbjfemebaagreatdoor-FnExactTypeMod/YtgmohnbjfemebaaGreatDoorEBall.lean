/- The walk of impl's rule for rows that are written; the rules as a map; the walk of typeCheckOf. Conditions: all can be read. TypeFind, both sides; the walk of impl's rule for calls. Conditions: all can be read. Every rule by one contract. Conditions: all can be read. The walk of impl's expr. Conditions: all can be read. -/
import Derived.Test.YtgmohnbjfemebaaGreatDoorEAall
import Derived.Maps.OwnSet
import Derived.Carry
import Derived.Test.YtgmohnbjfemebaaGreatDoorNJall
import Derived.Deep.RegionHeld3
namespace Go.Proofs.YtgmohnbjfemebaaGreatDoor
open Go.RowKit Go.PlainAid

set_option maxHeartbeats 4000000 in
theorem list_any (C lo : Nat) (x0 x1 x2 x3 x4 pv : Value) (a : Option Addr) (cap : Nat) (ws : List Int) (place : Int) (w : World) (hC : C < w.heap.size) (hc : w.cell? ⟨C, 5, none⟩ = some (.int .i64 place)) (h : IsInts w lo w.heap.size a ws) (hl : ws.length ≤ 8) :
    Calls Tryz.prog 77 #[.pointer (some ⟨C, 0, none⟩), .agg #[x0, x1, x2, x3, x4], pv, .slice a ws.length cap] w fun r w' => ∃ v : Value, r = .returned v ∧ IsRes w' w'.heap.size v (listT ws) place ∧ Below w.heap.size w w' := by
  rw [← fit_list]
  have HC := hide hc
  have HW := hide h
  clear hc h
  obtain ⟨W, hW⟩ : ∃ W, W = (w.alloc (.cells #[x0, x1, x2, x3, x4] 31)).alloc (.cells #[.int .i64 1] 3) := ⟨_, rfl⟩
  have HBW : Hid (Below w.heap.size w W) := hide (by rw [hW]; exact ((Below.refl _ _).alloc (Nat.le_refl _) _).alloc (by simp) _)
  have HWS : Hid (W.heap.size = w.heap.size + 2) := hide (by rw [hW]; simp)
  have HN1 : Hid (W.cell? ⟨w.heap.size + 1, 0, none⟩ = some (.int .i64 1)) := hide (by rw [hW]; have := alloc_cell (w.alloc (.cells #[x0, x1, x2, x3, x4] 31)) #[.int .i64 1] 3 0; rw [alloc_size] at this; exact this)
  have HREP := hide (repeat_any (w.heap.size + 1) ws.length hl W (by rw [unhide HWS]; omega) (unhide HN1))
  go_enter Tryz.func77, Tryz.ntmps77
  go_wp2_with fail
  rw [← hW]
  clear hW
  refine (unhide HREP).mono ?_
  rintro r w2 ⟨a2, cap2, rfl, hi, hb⟩
  have HB2 := hide ((unhide HBW).trans (hb.mono (by rw [unhide HWS]; omega)))
  have HI := hide hi
  have hrl : (List.replicate ws.length (1 : Int)).length = ws.length := by simp
  have HFIT := hide (fit_any C lo _ a a2 cap cap2 ws (List.replicate ws.length 1) 3 place w2 (Nat.lt_of_lt_of_le hC (unhide HB2).size) (((unhide HB2).cell (p := ⟨C, 5, none⟩) hC).trans (unhide HC)) ((unhide HW).kept (unhide HB2) (unhide HB2).size) (unhide HI) (by omega))
  rw [hrl] at HFIT
  clear hi hb hrl HREP HN1
  go_wp2_with fail
  refine (unhide HFIT).mono ?_
  rintro r w3 ⟨v, rfl, hr, hb3⟩
  have HB3 := hide ((unhide HB2).trans (hb3.mono (unhide HB2).size))
  clear hb3
  rcases hr with ⟨q, rfl⟩ | ⟨q, e, rfl, he⟩
  · have HR := hide q
    clear q
    go_wp2
    go_ret2
    exact ⟨_, rfl, Or.inl ⟨unhide HR, rfl⟩, unhide HB3⟩
  · have HR := hide q
    have HE := hide he
    clear q he
    go_wp2
    go_ret2
    exact ⟨_, rfl, Or.inr ⟨unhide HR, _, rfl, unhide HE⟩, unhide HB3⟩

/-- A function as a value. -/
abbrev FV (f : Nat) : Value := .func (.func f) #[] #[]
def RHf (v : Value) : Option (DataW Value × List MemPlace) := some (.held v, [])
def D0 : DataW Value := .map []
def D1 : DataW Value := (D0).put (.int .i64 1) (.held (FV 70))
def D2 : DataW Value := (D1).put (.int .i64 2) (.held (FV 71))
def D3 : DataW Value := (D2).put (.int .i64 3) (.held (FV 72))
def D4 : DataW Value := (D3).put (.int .i64 4) (.held (FV 73))
def D5 : DataW Value := (D4).put (.int .i64 5) (.held (FV 74))
def D6 : DataW Value := (D5).put (.int .i64 6) (.held (FV 75))
def D7 : DataW Value := (D6).put (.int .i64 7) (.held (FV 76))
def D8 : DataW Value := (D7).put (.int .i64 8) (.held (FV 77))
/-- A map that holds the eight rules. -/
def Rules (w : World) (b : Nat) : Prop := b < w.heap.size ∧ ∃ n : Nat, w.ownsMap Tryz.prog 3 RHf b n D8
theorem Rules.kept {w w' : World} {b : Nat} (h : Rules w b) (hb : Below w.heap.size w w') : Rules w' b := by
  obtain ⟨hb0, n, es, clock, h1, rest⟩ := h
  exact ⟨Nat.lt_of_lt_of_le hb0 hb.size, n, es, clock, (hb.block b hb0).trans h1, rest⟩
theorem keyI (i : Int) (h : (Lit.int .i64 i).wf = true) : keyOf Tryz.prog 3 (.int .i64 i) = some (.int .i64 i) := Maps.keyOf_int_mk Tryz.underlying3 h
theorem Rules.look {w : World} {b : Nat} (h : Rules w b) (i : Int) (f : Nat) (hw : (Lit.int .i64 i).wf = true) (hD : ∀ zd, D8.atKey (.int .i64 i) zd = .held (FV f)) : (Instr.lookup 147 (.map (some b)) (.int .i64 i) false).run Tryz.prog w = .ok (FV f) w := by
  obtain ⟨hb0, n, hown⟩ := h
  obtain ⟨v, ps, hrun, hv⟩ := hown.lookup (Maps.int_keyed Tryz.underlying3) Tryz.underlying147 (Tryz.zeroValue152 w) (zd := .held (.nilFunc)) (zp := []) rfl (keyI i hw)
  rw [hD] at hv
  unfold RHf at hv
  simp only [Option.some.injEq, Prod.mk.injEq, DataW.held.injEq] at hv
  rw [hrun, hv.1]
theorem look_1 {w : World} {b : Nat} (h : Rules w b) : (Instr.lookup 147 (.map (some b)) (.int .i64 1) false).run Tryz.prog w = .ok (FV 70) w := h.look 1 _ (by decide) (fun _ => by kernel_rfl)
theorem look_2 {w : World} {b : Nat} (h : Rules w b) : (Instr.lookup 147 (.map (some b)) (.int .i64 2) false).run Tryz.prog w = .ok (FV 71) w := h.look 2 _ (by decide) (fun _ => by kernel_rfl)
theorem look_3 {w : World} {b : Nat} (h : Rules w b) : (Instr.lookup 147 (.map (some b)) (.int .i64 3) false).run Tryz.prog w = .ok (FV 72) w := h.look 3 _ (by decide) (fun _ => by kernel_rfl)
theorem look_4 {w : World} {b : Nat} (h : Rules w b) : (Instr.lookup 147 (.map (some b)) (.int .i64 4) false).run Tryz.prog w = .ok (FV 73) w := h.look 4 _ (by decide) (fun _ => by kernel_rfl)
theorem look_5 {w : World} {b : Nat} (h : Rules w b) : (Instr.lookup 147 (.map (some b)) (.int .i64 5) false).run Tryz.prog w = .ok (FV 74) w := h.look 5 _ (by decide) (fun _ => by kernel_rfl)
theorem look_6 {w : World} {b : Nat} (h : Rules w b) : (Instr.lookup 147 (.map (some b)) (.int .i64 6) false).run Tryz.prog w = .ok (FV 75) w := h.look 6 _ (by decide) (fun _ => by kernel_rfl)
theorem look_7 {w : World} {b : Nat} (h : Rules w b) : (Instr.lookup 147 (.map (some b)) (.int .i64 7) false).run Tryz.prog w = .ok (FV 76) w := h.look 7 _ (by decide) (fun _ => by kernel_rfl)
theorem look_8 {w : World} {b : Nat} (h : Rules w b) : (Instr.lookup 147 (.map (some b)) (.int .i64 8) false).run Tryz.prog w = .ok (FV 77) w := h.look 8 _ (by decide) (fun _ => by kernel_rfl)
theorem turned_below {w w' : World} {b n : Nat} (h : w.mapTurned w' b) (hn : n ≤ w.heap.size) (hb : n ≤ b) : Below n w w' := (Below.refl _ _).grown h.grown hn (fun q hq => by cases hq; exact hb)
theorem store_one {w : World} {b n i : Nat} {D : DataW Value} (f : Nat) (h : w.ownsMap Tryz.prog 3 RHf b n D) (hn : n < 9) (hi : (Lit.int .i64 (i : Int)).wf = true) (m : Nat) (hm : m ≤ w.heap.size) (hmb : m ≤ b) : ∃ w', (Instr.mapUpdate 147 (.map (some b)) (.int .i64 (i : Int)) (FV f)).run Tryz.prog w = .ok () w' ∧ w'.ownsMap Tryz.prog 3 RHf b (n + 1) (D.put (.int .i64 (i : Int)) (.held (FV f))) ∧ Below m w w' := by
  obtain ⟨w', h1, h2, h3⟩ := h.store (Maps.int_keyed Tryz.underlying3) Tryz.underlying147 (by unfold maxLen; omega) (key := .int .i64 (i : Int)) (val := FV f) (d := .held (FV f)) (ps := []) (keyI i hi) rfl
  exact ⟨w', h1, h2, turned_below h3 hm hmb⟩
/-- A check of a module: the module, its faces, the rules, a place. -/
def CtxI (w : World) (C : Nat) (m : TM) (ys : List TY) (place : Int) : Prop := Ctx w C m ys ∧ w.cell? ⟨C, 5, none⟩ = some (.int .i64 place) ∧ ∃ b : Nat, w.cell? ⟨C, 4, none⟩ = some (.map (some b)) ∧ Rules w b
theorem CtxI.kept {w w' : World} {C : Nat} {m : TM} {ys : List TY} {place : Int} (h : CtxI w C m ys place) (hb : Below w.heap.size w w') : CtxI w' C m ys place := by
  obtain ⟨h1, h2, b, h3, h4⟩ := h
  exact ⟨h1.kept hb, (hb.cell (p := ⟨C, 5, none⟩) h1.1).trans h2, b, (hb.cell (p := ⟨C, 4, none⟩) h1.1).trans h3, h4.kept hb⟩

set_option maxHeartbeats 4000000 in
theorem checkOf_any (lo h lo2 : Nat) (v : Value) (m : TM) (a : Option Addr) (cap : Nat) (ys : List TY) (w : World) (hM : IsMod w lo w.heap.size h v m) (hY : IsFaces (IsFace w lo2 w.heap.size) w lo2 w.heap.size a ys) :
    Calls Tryz.prog 35 #[v, .slice a ys.length cap] w fun r w' => ∃ C : Nat, r = .returned (.pointer (some ⟨C, 0, none⟩)) ∧ CtxI w' C m ys 0 ∧ w.heap.size ≤ C ∧ Below w.heap.size w w' := by
  have HM := hide hM
  have HY := hide hY
  obtain ⟨a1, a2, a3, k1, k2, k3, hv, hz, q1, q2, q3⟩ := hM
  subst hv
  obtain ⟨L1, hL1⟩ : ∃ L1, m.uses.length = L1 := ⟨_, rfl⟩
  obtain ⟨L2, hL2⟩ : ∃ L2, m.funs.length = L2 := ⟨_, rfl⟩
  obtain ⟨L3, hL3⟩ : ∃ L3, m.main.length = L3 := ⟨_, rfl⟩
  rw [hL1, hL2, hL3] at HM ⊢
  clear q1 q2 q3 hz hL1 hL2 hL3 hY
  obtain ⟨W, hW⟩ : ∃ W, W = w.alloc (.cells #[.slice a1 L1 k1, .slice a2 L2 k2, .slice a3 L3 k3] 27) := ⟨_, rfl⟩
  have hBW : Below w.heap.size w W := by rw [hW]; exact (Below.refl _ _).alloc (Nat.le_refl _) _
  have hWS : W.heap.size = w.heap.size + 1 := by rw [hW]; simp
  have r0 : (Instr.makeMap 147 none).run Tryz.prog W = .ok (.map (some W.heap.size)) (W.alloc (.map #[] 0)) := run_makeMap _ _
  have o0 : (W.alloc (.map #[] 0)).ownsMap Tryz.prog 3 RHf W.heap.size 0 D0 := World.ownsMap_made W Tryz.prog 3 RHf
  have b0 : Below w.heap.size w (W.alloc (.map #[] 0)) := hBW.alloc hBW.size _
  obtain ⟨w1, r1, o1, c1⟩ := store_one (i := 1) 70 o0 (by omega) (by decide) w.heap.size b0.size (by rw [hWS]; omega)
  have b1 := b0.trans c1
  obtain ⟨w2, r2, o2, c2⟩ := store_one (i := 2) 71 o1 (by omega) (by decide) w.heap.size b1.size (by rw [hWS]; omega)
  have b2 := b1.trans c2
  obtain ⟨w3, r3, o3, c3⟩ := store_one (i := 3) 72 o2 (by omega) (by decide) w.heap.size b2.size (by rw [hWS]; omega)
  have b3 := b2.trans c3
  obtain ⟨w4, r4, o4, c4⟩ := store_one (i := 4) 73 o3 (by omega) (by decide) w.heap.size b3.size (by rw [hWS]; omega)
  have b4 := b3.trans c4
  obtain ⟨w5, r5, o5, c5⟩ := store_one (i := 5) 74 o4 (by omega) (by decide) w.heap.size b4.size (by rw [hWS]; omega)
  have b5 := b4.trans c5
  obtain ⟨w6, r6, o6, c6⟩ := store_one (i := 6) 75 o5 (by omega) (by decide) w.heap.size b5.size (by rw [hWS]; omega)
  have b6 := b5.trans c6
  obtain ⟨w7, r7, o7, c7⟩ := store_one (i := 7) 76 o6 (by omega) (by decide) w.heap.size b6.size (by rw [hWS]; omega)
  have b7 := b6.trans c7
  obtain ⟨w8, r8, o8, c8⟩ := store_one (i := 8) 77 o7 (by omega) (by decide) w.heap.size b7.size (by rw [hWS]; omega)
  have b8 := b7.trans c8
  have HO : Hid (w8.ownsMap Tryz.prog 3 RHf W.heap.size 8 D8) := hide o8
  have HB8 := hide b8
  have HWS := hide hWS
  have hs8 : W.heap.size < w8.heap.size := by
    obtain ⟨es, cl, hh, _⟩ := o8
    rcases Nat.lt_or_ge W.heap.size w8.heap.size with g | g
    · exact g
    · rw [Array.getElem?_eq_none g] at hh; cases hh
  clear o0 o1 o2 o3 o4 o5 o6 o7 o8 b0 b1 b2 b3 b4 b5 b6 b7 b8 c1 c2 c3 c4 c5 c6 c7 c8 hBW
  have s1 : (Instr.mapUpdate 147 (.map (some W.heap.size)) (.int .i64 1) (FV 70)).run Tryz.prog (W.alloc (.map #[] 0)) = .ok () w1 := r1
  have s2 : (Instr.mapUpdate 147 (.map (some W.heap.size)) (.int .i64 2) (FV 71)).run Tryz.prog w1 = .ok () w2 := r2
  have s3 : (Instr.mapUpdate 147 (.map (some W.heap.size)) (.int .i64 3) (FV 72)).run Tryz.prog w2 = .ok () w3 := r3
  have s4 : (Instr.mapUpdate 147 (.map (some W.heap.size)) (.int .i64 4) (FV 73)).run Tryz.prog w3 = .ok () w4 := r4
  have s5 : (Instr.mapUpdate 147 (.map (some W.heap.size)) (.int .i64 5) (FV 74)).run Tryz.prog w4 = .ok () w5 := r5
  have s6 : (Instr.mapUpdate 147 (.map (some W.heap.size)) (.int .i64 6) (FV 75)).run Tryz.prog w5 = .ok () w6 := r6
  have s7 : (Instr.mapUpdate 147 (.map (some W.heap.size)) (.int .i64 7) (FV 76)).run Tryz.prog w6 = .ok () w7 := r7
  have s8 : (Instr.mapUpdate 147 (.map (some W.heap.size)) (.int .i64 8) (FV 77)).run Tryz.prog w7 = .ok () w8 := r8
  clear r1 r2 r3 r4 r5 r6 r7 r8
  rw [hWS] at r0 s1 s2 s3 s4 s5 s6 s7 s8
  rw [hW] at r0 s1
  go_enter Tryz.func35, Tryz.ntmps35
  go_wp2
  go_ret
  have hBN : Below w.heap.size w (w8.alloc (.cells #[.slice a1 L1 k1, .slice a2 L2 k2, .slice a3 L3 k3, .slice a ys.length cap, .map (some (w.heap.size + 1)), .int .i64 0] 149)) := (unhide HB8).alloc (unhide HB8).size _
  refine ⟨w8.heap.size, rfl, ⟨⟨by simp, _, _, _, a, cap, lo, h, lo2, alloc_cell w8 _ _ 0, alloc_cell w8 _ _ 1, alloc_cell w8 _ _ 2, alloc_cell w8 _ _ 3, IsMod.kept h hBN hBN.size _ _ (unhide HM), (unhide HY).kept hBN hBN.size⟩, alloc_cell w8 _ _ 5, w.heap.size + 1, alloc_cell w8 _ _ 4, ?_⟩, (unhide HB8).size, hBN⟩
  refine Rules.kept (w := w8) ⟨by rw [← unhide HWS]; exact hs8, 8, by rw [← unhide HWS]; exact unhide HO⟩ ((Below.refl _ _).alloc (Nat.le_refl _) _)
end Go.Proofs.YtgmohnbjfemebaaGreatDoor

namespace Go.Proofs.YtgmohnbjfemebaaGreatDoor
open Go.RowKit Go.PlainAid

theorem TypeFindI_all (lo h lo2 : Nat) (v : Value) (m : TM) (a : Option Addr) (cap : Nat) (ys : List TY) (md nm : ByteArray) (w : World) (hM : IsMod w lo w.heap.size h v m) (hY : IsFaces (IsFace w lo2 w.heap.size) w lo2 w.heap.size a ys) (hF : Fits m ys) :
    Calls Tryz.prog 109 #[v, .slice a ys.length cap, .string md, .string nm] w fun r w' => FPost w (findSig m ys md nm) r w' := by
  cases hmd : (md.toList == []) with
  | true => exact TypeFindI_own lo h lo2 v m a cap ys md nm w hM hF.1 hY hmd
  | false => exact TypeFindI_other lo h lo2 v m a cap ys md nm w hM hY hF.2.1 hF.2.2 hmd
theorem TypeFindS_all (lo h lo2 : Nat) (v : Value) (m : TM) (a : Option Addr) (cap : Nat) (ys : List TY) (md nm : ByteArray) (w : World) (hM : IsMod w lo w.heap.size h v m) (hY : IsFaces (IsFace w lo2 w.heap.size) w lo2 w.heap.size a ys) (hF : Fits m ys) :
    Calls Tryz.prog 90 #[v, .slice a ys.length cap, .string md, .string nm] w fun r w' => FPost w (findSig m ys md nm) r w' := by
  cases hmd : (md.toList == []) with
  | true => exact TypeFindS_own lo h v m a cap ys md nm w hM hF.1 hmd
  | false => exact TypeFindS_other lo h lo2 v m a cap ys md nm w hM hY hF.2.1 hF.2.2 hmd
theorem IsInts.lower {w : World} {lo n : Nat} {a : Option Addr} {zs : List Int} (h : IsInts w lo n a zs) : IsInts w 0 n a zs := h.same (fun _ _ _ => rfl) (Nat.zero_le _) (Nat.le_refl _)
theorem ints_set3 {w : World} {lo n B : Nat} {a : Option Addr} {zs : List Int} {x0 x1 x2 : Value} (h : IsInts w lo n a zs) (hB : B < lo) : IsInts (((w.setCell ⟨B, 0, none⟩ x0).setCell ⟨B, 1, none⟩ x1).setCell ⟨B, 2, none⟩ x2) 0 n a zs :=
  (h.same (fun b h1 h2 => by rw [Below.heap_setCell _ _ _ _ (by simp; omega), Below.heap_setCell _ _ _ _ (by simp; omega), Below.heap_setCell _ _ _ _ (by simp; omega)]) (Nat.zero_le _) (Nat.le_refl _))
theorem set3_size (w : World) (B : Nat) (x0 x1 x2 : Value) : (((w.setCell ⟨B, 0, none⟩ x0).setCell ⟨B, 1, none⟩ x1).setCell ⟨B, 2, none⟩ x2).heap.size = w.heap.size := by simp [World.setCell]
theorem callT_len {s : TS} {parts : List Int} (h : s.args.length ≠ parts.length) : callT (some s) parts = (0, 3) := by unfold callT; exact applyT_len h
theorem callT_fit {s : TS} {parts : List Int} (h : s.args.length = parts.length) : fitT parts s.args s.type = callT (some s) parts := fit_apply _ _ _ h
theorem sig_small {m : TM} {ys : List TY} {md nm : ByteArray} {s : TS} (hF : Fits m ys) (h : findSig m ys md nm = some s) : s.args.length ≤ 1048576 := by
  unfold findSig at h
  split at h
  · cases e : m.funs.find? (isF nm) with
    | none => rw [e] at h; cases h
    | some f =>
      rw [e] at h
      have := hF.1 f (List.mem_of_find?_eq_some e)
      cases h
      simpa [sigOf] using this.1
  · split at h
    · cases e : ys.find? (isMod md) with
      | none => rw [e] at h; cases h
      | some y =>
        rw [e] at h
        exact (hF.2.2 y (List.mem_of_find?_eq_some e) s (List.mem_of_find?_eq_some h)).1
    · cases h

set_option maxHeartbeats 4000000 in
theorem call_any (C lo : Nat) (x0 x1 x4 pv : Value) (nm md : ByteArray) (a : Option Addr) (cap : Nat) (ws : List Int) (place : Int) (m : TM) (ys : List TY) (w : World) (hC : Ctx w C m ys) (hc : w.cell? ⟨C, 5, none⟩ = some (.int .i64 place)) (hF : Fits m ys) (h : IsInts w lo w.heap.size a ws) (hl : ws.length ≤ 1048576) :
    Calls Tryz.prog 76 #[.pointer (some ⟨C, 0, none⟩), .agg #[x0, x1, .string nm, .string md, x4], pv, .slice a ws.length cap] w fun r w' => ∃ v : Value, r = .returned v ∧ IsRes w' w'.heap.size v (callT (findSig m ys md nm) ws) place ∧ Below w.heap.size w w' := by
  obtain ⟨hP, c0, c1, c2, fa, fcap, lom, hh, lo2, d0, d1, d2, d3, hM, hY⟩ := hC
  have HSM := hide (fun s => sig_small (md := md) (nm := nm) (s := s) hF)
  obtain ⟨W, hW⟩ : ∃ W, W = w.alloc (.cells #[x0, x1, .string nm, .string md, x4] 31) := ⟨_, rfl⟩
  have hBW : Below w.heap.size w W := by rw [hW]; exact (Below.refl _ _).alloc (Nat.le_refl _) _
  have hWS : W.heap.size = w.heap.size + 1 := by rw [hW]; simp
  have e0 := (hBW.cell (p := ⟨C, 0, none⟩) hP).trans d0
  have e1 := (hBW.cell (p := ⟨C, 1, none⟩) hP).trans d1
  have e2 := (hBW.cell (p := ⟨C, 2, none⟩) hP).trans d2
  have e3 := (hBW.cell (p := ⟨C, 3, none⟩) hP).trans d3
  have n2 : W.cell? ⟨w.heap.size, 2, none⟩ = some (.string nm) := by rw [hW, alloc_cell]; rfl
  have n3 : W.cell? ⟨w.heap.size, 3, none⟩ = some (.string md) := by rw [hW, alloc_cell]; rfl
  have HT := hide (fun (W' : World) (hb : Below w.heap.size w W') => TypeFindI_all lom hh lo2 (.agg #[c0, c1, c2]) m fa fcap ys md nm W' (IsMod.kept hh hb hb.size _ _ hM) (hY.kept hb hb.size) hF)
  have HW := hide h
  have HC := hide hc
  have HBW := hide hBW
  have HWS := hide hWS
  obtain ⟨o, ho⟩ : ∃ o, findSig m ys md nm = o := ⟨_, rfl⟩
  rw [ho] at HT HSM ⊢
  obtain ⟨S, hS⟩ : ∃ S, o.getD zS = S := ⟨_, rfl⟩
  obtain ⟨kn, hkn⟩ : ∃ kn, o.isSome = kn := ⟨_, rfl⟩
  simp only [FPost, hS, hkn] at HT
  obtain ⟨sn, sg, st⟩ := S
  dsimp only at HT
  have HS := hide hS
  have HKN := hide hkn
  clear hM hY hc h d0 d1 d2 d3 hBW hWS hF ho hS hkn
  go_enter Tryz.func76, Tryz.ntmps76
  go_wp2
  rw [← hW]
  clear hW
  go_cut [10, 11] from 12 to 27 (fun s t wc => ∃ (B : Nat) (sa : Option Addr) (sc : Nat), s = .pointer (some ⟨B, 0, none⟩) ∧ t = .bool kn ∧ B < wc.heap.size ∧ Hid (Blk wc B [.string sn, .slice sa sg.length sc, .int .i64 st]) ∧ Hid (IsInts wc 0 wc.heap.size sa sg) ∧ Hid (Below w.heap.size w wc))
  case first =>
    have HSK := hide (fun (w' : World) (hb : Below W.heap.size W w') => (⟨(hb.cell (p := ⟨C, 0, none⟩) (by show C < _; rw [unhide HWS]; exact Nat.lt_succ_of_lt hP)).trans e0, (hb.cell (p := ⟨C, 1, none⟩) (by show C < _; rw [unhide HWS]; exact Nat.lt_succ_of_lt hP)).trans e1, (hb.cell (p := ⟨C, 2, none⟩) (by show C < _; rw [unhide HWS]; exact Nat.lt_succ_of_lt hP)).trans e2, (hb.cell (p := ⟨C, 3, none⟩) (by show C < _; rw [unhide HWS]; exact Nat.lt_succ_of_lt hP)).trans e3, (hb.cell (p := ⟨w.heap.size, 2, none⟩) (by show _ < _; rw [unhide HWS]; exact Nat.lt_succ_self _)).trans n2, (hb.cell (p := ⟨w.heap.size, 3, none⟩) (by show _ < _; rw [unhide HWS]; exact Nat.lt_succ_self _)).trans n3⟩ : w'.cell? ⟨C, 0, none⟩ = some c0 ∧ w'.cell? ⟨C, 1, none⟩ = some c1 ∧ w'.cell? ⟨C, 2, none⟩ = some c2 ∧ w'.cell? ⟨C, 3, none⟩ = some (.slice fa ys.length fcap) ∧ w'.cell? ⟨w.heap.size, 2, none⟩ = some (.string nm) ∧ w'.cell? ⟨w.heap.size, 3, none⟩ = some (.string md)))
    go_region_held3 (fun w' => w'.cell? ⟨C, 0, none⟩ = some c0 ∧ w'.cell? ⟨C, 1, none⟩ = some c1 ∧ w'.cell? ⟨C, 2, none⟩ = some c2 ∧ w'.cell? ⟨C, 3, none⟩ = some (.slice fa ys.length fcap) ∧ w'.cell? ⟨w.heap.size, 2, none⟩ = some (.string nm) ∧ w'.cell? ⟨w.heap.size, 3, none⟩ = some (.string md))
      (exact unhide HSK _ (by first | exact Below.refl _ _ | exact (Below.refl _ _).drew | exact (Below.refl _ W).drew.alloc (Nat.le_refl _) _ | exact (Below.refl _ W).alloc (Nat.le_refl _) _ | exact ((Below.refl _ W).alloc (Nat.le_refl _) _).drew | exact kW | exact kW.alloc kW.size _ | exact kW.setCell (Nat.le_refl _) _ | exact (kW.setCell (Nat.le_refl _) _).setCell (Nat.le_refl _) _ | exact ((kW.setCell (Nat.le_refl _) _).setCell (Nat.le_refl _) _).setCell (Nat.le_refl _) _))
      (first | (go_at_call 109; refine (unhide HT _ (by first | exact (unhide HBW).drew | exact ((unhide HBW).alloc (unhide HBW).size _).drew | exact (unhide HBW).drew.alloc (unhide HBW).size _)).mono ?_; rintro r w2 ⟨v, rfl, hown, hb2⟩; obtain ⟨sa, sc, rfl, hI⟩ := hown.ints; first | (have kW : Below W.heap.size W w2 := (Below.refl _ W).drew.trans hb2) | (have n3 : Blk w2 W.heap.size [Value.string ⟨#[]⟩, Value.slice none 0 0, Value.int .i64 0] := (Blk.new W.drew [Value.string ⟨#[]⟩, Value.slice none 0 0, Value.int .i64 0] 81).below hb2 (by simp); have y0 := n3.cellAt (i := 0) rfl; have y1 := n3.cellAt (i := 1) rfl; have y2 := n3.cellAt (i := 2) rfl; have x0 := n3.2 0; have x1 := n3.2 1; have x2 := n3.2 2; have kW : Below W.heap.size W w2 := (((Below.refl _ W).drew.alloc (Nat.le_refl _) _)).trans (hb2.mono (by simp)))))
    all_goals (
      go_wp2_with fail
      go_meet)
    all_goals first
      | exact ⟨w2.heap.size, sa, sc, rfl, rfl, by simp, hide (Blk.new w2 [.string sn, .slice sa sg.length sc, .int .i64 st] 81), hide ((hI.kept ((Below.refl _ w2).alloc (Nat.le_refl _) _) (by simp)).lower), hide ((unhide HBW).trans ((kW.alloc kW.size _).mono (by rw [unhide HWS]; exact Nat.le_succ _)))⟩
      | exact ⟨W.heap.size, sa, sc, rfl, rfl, by have := hb2.size; simp [World.setCell] at this ⊢; omega, hide (((n3.set 0 (.string sn) (by simp)).set 1 (.slice sa sg.length sc) (by simp)).set 2 (.int .i64 st) (by simp)), hide ((set3_size _ _ _ _ _).symm ▸ ints_set3 hI (by first | (simp; done) | (simp; omega) | omega)), hide ((unhide HBW).trans ((((kW.setCell (p := ⟨W.heap.size, 0, none⟩) (Nat.le_refl _) _).setCell (p := ⟨W.heap.size, 1, none⟩) (Nat.le_refl _) _).setCell (p := ⟨W.heap.size, 2, none⟩) (Nat.le_refl _) _).mono (by rw [unhide HWS]; exact Nat.le_succ _)))⟩
  case rest =>
  obtain ⟨B, sa, sc, rfl, rfl, hB, HBK, HI, HB⟩ := hcut
  have b1 := (unhide HBK).cellAt (i := 1) rfl
  have b2 := (unhide HBK).cellAt (i := 2) rfl
  have q5 := ((unhide HB).cell (p := ⟨C, 5, none⟩) hP).trans (unhide HC)
  have Q5 := hide q5
  clear e0 e1 e2 e3 n2 n3 HT HBW HWS HBK q5
  cases o with
  | none =>
    have hk0 := unhide HKN
    subst hk0
    clear b1 b2 HS HKN
    go_wp2_with fail
    refine (fault_any C 2 place _ (unhide Q5)).mono ?_
    rintro r w3 ⟨v, rfl, he, hb3⟩
    have HE := hide he
    have HB3 := hide ((unhide HB).trans (hb3.mono (unhide HB).size))
    clear he hb3
    go_wp2
    go_ret2
    exact ⟨_, rfl, Or.inr ⟨by simp [callT], _, rfl, unhide HE⟩, unhide HB3⟩
  | some s =>
    have hk0 := unhide HKN
    subst hk0
    have hs0 : s = ⟨sn, sg, st⟩ := unhide HS
    subst hs0
    clear HS HKN
    have hsm := unhide HSM _ rfl
    dsimp only at hsm
    by_cases hlen : sg.length = ws.length
    · have hne : ((ws.length : Int) != (sg.length : Int)) = false := by rw [hlen]; simp
      have HFIT := hide (callT_fit (s := ⟨sn, sg, st⟩) (parts := ws) hlen)
      clear hlen
      go_wp2_with fail
      refine (fit_any C lo 0 _ _ cap sc ws sg st place _ (Nat.lt_of_lt_of_le hP (unhide HB).size) (unhide Q5) ((unhide HW).kept (unhide HB) (unhide HB).size) (unhide HI) hl).mono ?_
      rintro r w3 ⟨v, rfl, hr, hb3⟩
      have HB3 := hide ((unhide HB).trans (hb3.mono (unhide HB).size))
      have hr2 := hr
      rw [show fitT ws sg st = callT (some ⟨sn, sg, st⟩) ws from unhide HFIT] at hr2
      have HR := hide hr2
      clear hb3 hr2
      rcases hr with ⟨q, rfl⟩ | ⟨q, e, rfl, he⟩
      · clear q
        go_wp2
        go_ret2
        exact ⟨_, rfl, unhide HR, unhide HB3⟩
      · clear q he
        go_wp2
        go_ret2
        exact ⟨_, rfl, unhide HR, unhide HB3⟩
    · have hne : ((ws.length : Int) != (sg.length : Int)) = true := bne_iff_ne.2 (by omega)
      have HCT := hide (callT_len (s := ⟨sn, sg, st⟩) (parts := ws) hlen)
      clear hlen
      go_wp2_with fail
      refine (fault_any C 3 place _ (unhide Q5)).mono ?_
      rintro r w3 ⟨v, rfl, he, hb3⟩
      have HE := hide he
      have HB3 := hide ((unhide HB).trans (hb3.mono (unhide HB).size))
      clear he hb3
      go_wp2
      go_ret2
      refine ⟨_, rfl, ?_, unhide HB3⟩
      rw [unhide HCT]
      exact Or.inr ⟨by simp, _, rfl, unhide HE⟩
end Go.Proofs.YtgmohnbjfemebaaGreatDoor

namespace Go.Proofs.YtgmohnbjfemebaaGreatDoor
open Go.RowKit Go.PlainAid

/-- The function that a rule is, and what it answers. -/
def RuleOf (C : Nat) (kd mm : Int) (nm md : ByteArray) (ka : Option Addr) (KL kc : Nat) (m : TM) (ys : List TY) (place : Int) (vs : List TA) (ps : List Int) (f : Nat) : Prop :=
  (∀ (w : World) (b : Nat), Rules w b → (Instr.lookup 147 (.map (some b)) (.int .i64 kd) false).run Tryz.prog w = .ok (FV f) w) ∧
  (∀ (W : World) (x0 x1 x2 x3 : Value), (callFunc f #[x0, x1, x2, x3]).run Tryz.prog W = .ok (.enter f #[x0, x1, x2, x3]) W) ∧
  ∀ (lo : Nat) (w : World) (pv : Value) (sl : Option Addr) (cp : Nat), CtxI w C m ys place → IsInts w lo w.heap.size sl ps → IsV w w.heap.size pv vs.reverse →
    Calls Tryz.prog f #[.pointer (some ⟨C, 0, none⟩), .agg #[.int .i64 kd, .int .i64 mm, .string nm, .string md, .slice ka KL kc], pv, .slice sl ps.length cp] w fun r w' => ∃ v : Value, r = .returned v ∧ IsRes w' w'.heap.size v (ruleT (findSig m ys) kd nm md vs ps) place ∧ Below w.heap.size w w'
theorem rule_any (C : Nat) (kd mm : Int) (nm md : ByteArray) (ka : Option Addr) (KL kc : Nat) (m : TM) (ys : List TY) (place : Int) (vs : List TA) (ps : List Int) (hF : Fits m ys) (hnode : nodeB kd mm nm md ps.length = true) : ∃ f, RuleOf C kd mm nm md ka KL kc m ys place vs ps f := by
  have hk := node_kids hnode
  have hn8 := node_small hnode
  rcases hk.2.2.2.2.2.2 with rfl | rfl | rfl | rfl | rfl | rfl | rfl | rfl
  · refine ⟨70, fun _ _ h => look_1 h, fun _ _ _ _ _ => by kernel_rfl, fun lo w pv sl cp hC hI hV => (num_any _ _ _ _ _ _ _ _ w).mono ?_⟩
    rintro r w' ⟨rfl, hb⟩
    exact ⟨_, rfl, .inl ⟨rfl, rfl⟩, hb⟩
  · refine ⟨71, fun _ _ h => look_2 h, fun _ _ _ _ _ => by kernel_rfl, fun lo w pv sl cp hC hI hV => (flag_any _ _ _ _ _ _ _ _ w).mono ?_⟩
    rintro r w' ⟨rfl, hb⟩
    exact ⟨_, rfl, .inl ⟨rfl, rfl⟩, hb⟩
  · refine ⟨72, fun _ _ h => look_3 h, fun _ _ _ _ _ => by kernel_rfl, fun lo w pv sl cp hC hI hV => ?_⟩
    have := variable_any C (.int .i64 3) (.int .i64 mm) (.string md) (.slice ka KL kc) pv (.slice sl ps.length cp) nm vs.reverse place w hC.1.1 hC.2.1 hV
    rw [variable_var] at this
    exact this
  · refine ⟨73, fun _ _ h => look_4 h, fun _ _ _ _ _ => by kernel_rfl, fun lo w pv sl cp hC hI hV => ?_⟩
    have := prim_any C lo (.int .i64 4) (.int .i64 mm) (.string md) (.slice ka KL kc) pv nm sl cp ps place w hC.1.1 hC.2.1 hI (by omega)
    rw [fit_apply _ _ _ (hk.2.2.2.1 rfl)] at this
    exact this
  · refine ⟨74, fun _ _ h => look_5 h, fun _ _ _ _ _ => by kernel_rfl, fun lo w pv sl cp hC hI hV => ?_⟩
    have h3 : ps.length = 3 := hk.2.2.2.2.1 rfl
    have := choice_any C lo (.int .i64 5) (.int .i64 mm) (.string nm) (.string md) (.slice ka KL kc) pv sl cp ps (ps.getD 1 0) place w hC.1.1 hC.2.1 hI (by omega) (by omega) (by simp [List.getD, List.getElem?_eq_getElem (show 1 < ps.length by omega)])
    rw [fit_apply _ _ _ (by simp [h3])] at this
    exact this
  · have h2 : ps.length = 2 := hk.2.2.2.2.2.1 rfl
    obtain ⟨s, t, rfl⟩ : ∃ s t, ps = [s, t] := by
      match ps, h2 with
      | [s, t], _ => exact ⟨s, t, rfl⟩
    refine ⟨75, fun _ _ h => look_6 h, fun _ _ _ _ _ => by kernel_rfl, fun lo w pv sl cp hC hI hV => (let_any lo _ _ _ _ _ _ pv sl cp s t w hI).mono ?_⟩
    rintro r w' ⟨rfl, hb⟩
    exact ⟨_, rfl, .inl ⟨rfl, rfl⟩, hb⟩
  · refine ⟨76, fun _ _ h => look_7 h, fun _ _ _ _ _ => by kernel_rfl, fun lo w pv sl cp hC hI hV => ?_⟩
    exact call_any C lo (.int .i64 7) (.int .i64 mm) (.slice ka KL kc) pv nm md sl cp ps place m ys w hC.1 hC.2.1 hF hI (by omega)
  · refine ⟨77, fun _ _ h => look_8 h, fun _ _ _ _ _ => by kernel_rfl, fun lo w pv sl cp hC hI hV => ?_⟩
    exact list_any C lo (.int .i64 8) (.int .i64 mm) (.string nm) (.string md) (.slice ka KL kc) pv sl cp ps place w hC.1.1 hC.2.1 hI (by omega)
end Go.Proofs.YtgmohnbjfemebaaGreatDoor

namespace Go.Proofs.YtgmohnbjfemebaaGreatDoor
open Go.RowKit Go.PlainAid

theorem IsRes.form {w : World} {n : Nat} {v : Value} {R : Int × Int} {place : Int} (h : IsRes w n v R place) : ∃ (x : Int) (y : Value), v = .tuple #[.int .i64 x, y] := by
  rcases h with ⟨_, rfl⟩ | ⟨_, e, rfl, _⟩
  · exact ⟨_, _, rfl⟩
  · exact ⟨_, _, rfl⟩
/-- A chain of variables, none of them in a block. -/
def IsVx (w : World) (n : Nat) (g : Option Nat) : Value → List TA → Prop
  | p, [] => p = .pointer none
  | p, a :: t => ∃ (b : Nat) (q : Value), p = .pointer (some ⟨b, 0, none⟩) ∧ b < n ∧ some b ≠ g ∧ w.cell? ⟨b, 0, none⟩ = some (.string a.name) ∧ w.cell? ⟨b, 1, none⟩ = some (.int .i64 a.type) ∧ w.cell? ⟨b, 2, none⟩ = some q ∧ IsVx w n g q t
theorem IsVx.isV {w : World} {n : Nat} {g : Option Nat} : ∀ {p : Value} {l : List TA}, IsVx w n g p l → IsV w n p l
  | _, [], h => h
  | _, _ :: _, h => by
    obtain ⟨b, q, h1, h2, _, h3, h4, h5, h6⟩ := h
    exact ⟨b, q, h1, h2, h3, h4, h5, h6.isV⟩
theorem IsV.x {w : World} {n : Nat} : ∀ {p : Value} {l : List TA}, IsV w n p l → IsVx w n none p l
  | _, [], h => h
  | _, _ :: _, h => by
    obtain ⟨b, q, h1, h2, h3, h4, h5, h6⟩ := h
    exact ⟨b, q, h1, h2, by simp, h3, h4, h5, h6.x⟩
theorem IsVx.kept {w w' : World} {n m : Nat} {g : Option Nat} (hb : Below n w w') (hm : n ≤ m) : ∀ {p : Value} {l : List TA}, IsVx w n g p l → IsVx w' m g p l
  | _, [], h => h
  | _, _ :: _, h => by
    obtain ⟨b, q, h1, h2, h0, h3, h4, h5, h6⟩ := h
    exact ⟨b, q, h1, by omega, h0, (hb.cell (p := ⟨b, 0, none⟩) h2).trans h3, (hb.cell (p := ⟨b, 1, none⟩) h2).trans h4, (hb.cell (p := ⟨b, 2, none⟩) h2).trans h5, h6.kept hb hm⟩
theorem IsVx.grown {w w' : World} {n m : Nat} {g g' : Option Nat} (hg : w.grownBy w' g) (hn : n ≤ w.heap.size) (hm : n ≤ m) (hgg : g' = g ∨ ∃ H, g' = some H ∧ n ≤ H) : ∀ {p : Value} {l : List TA}, IsVx w n g p l → IsVx w' m g' p l
  | _, [], h => h
  | _, _ :: _, h => by
    obtain ⟨b, q, h1, h2, h0, h3, h4, h5, h6⟩ := h
    refine ⟨b, q, h1, by omega, ?_, (hg.cell_far ⟨b, 0, none⟩ (by show b < _; omega) h0).trans h3, (hg.cell_far ⟨b, 1, none⟩ (by show b < _; omega) h0).trans h4, (hg.cell_far ⟨b, 2, none⟩ (by show b < _; omega) h0).trans h5, h6.grown hg hn hm hgg⟩
    rcases hgg with e | ⟨H, e, hH⟩
    · rw [e]; exact h0
    · rw [e]; intro k; cases k; omega
/-- The contract of impl's expr, at trees of a height. -/
def ExprI (C : Nat) (m : TM) (ys : List TY) (place : Int) (h : Nat) : Prop := ∀ (lo : Nat) (v : Value) (e : TE) (w : World) (pv : Value) (vars : List TA), IsE w lo w.heap.size h v e → e.ok = true → CtxI w C m ys place → IsV w w.heap.size pv vars.reverse →
  Calls Tryz.prog 36 #[.pointer (some ⟨C, 0, none⟩), v, pv] w fun r w' => ∃ v' : Value, r = .returned v' ∧ IsRes w' w'.heap.size v' (e.typ (findSig m ys) vars) place ∧ Below w.heap.size w w'

set_option maxRecDepth 100000 in
set_option maxHeartbeats 1500000 in
theorem exprI_step (C : Nat) (m : TM) (ys : List TY) (place : Int) (hF : Fits m ys) (h : Nat) (IH : ExprI C m ys place h) : ExprI C m ys place (h + 1) := by
  intro lo v e w pv vars hE hok hC hV
  obtain ⟨kd, mm, nm, md, kids⟩ := e
  rw [TE.ok, Bool.and_eq_true] at hok
  obtain ⟨ka, kc, rfl, hz, hk⟩ := hE
  obtain ⟨pa, rfl⟩ := hV.form
  have hn8 := node_small hok.1
  obtain ⟨i0, hi, hz0, hz1, hz2⟩ := info_parts intinfo
  obtain ⟨R, hR⟩ : ∃ R, (TE.node kd mm nm md kids).typ (findSig m ys) vars = R := ⟨_, rfl⟩
  rw [hR]
  have HBADR : Hid (∀ ps vs c, kidsT (findSig m ys) (decide (kd = 6)) nm kids vars = (ps, vs, c) → c ≠ 0 → R = (0, c)) := hide (fun ps vs c g hc => by rw [← hR]; exact typ_bad g hc)
  have HDONE : Hid (∀ ps vs, kidsT (findSig m ys) (decide (kd = 6)) nm kids vars = (ps, vs, 0) → R = ruleT (findSig m ys) kd nm md vs ps) := hide (fun ps vs g => by rw [← hR]; exact typ_done g)
  have HRULE : Hid (∀ ps vs, ps.length = kids.length → ∃ f, RuleOf C kd mm nm md ka kids.length kc m ys place vs ps f) := hide (fun ps vs hl => rule_any C kd mm nm md ka kids.length kc m ys place vs ps hF (by rw [hl]; exact hok.1))
  have HK := hide hk
  have HC := hide hC
  have HV := hide hV
  have HOK := hide hok.2
  have HIH := hide IH
  obtain ⟨KL, hKL⟩ : ∃ KL, kids.length = KL := ⟨_, rfl⟩
  rw [hKL] at HRULE hn8 ⊢
  have HKL := hide hKL
  obtain ⟨W, hW⟩ : ∃ W, W = w.alloc (.cells #[.int .i64 kd, .int .i64 mm, .string nm, .string md, .slice ka KL kc] 31) := ⟨_, rfl⟩
  have HBW : Hid (Below w.heap.size w W) := hide (by rw [hW]; exact (Below.refl _ _).alloc (Nat.le_refl _) _)
  have HWS : Hid (W.heap.size = w.heap.size + 1) := hide (by rw [hW]; simp)
  have HN0 : Hid (Blk W w.heap.size [.int .i64 kd, .int .i64 mm, .string nm, .string md, .slice ka KL kc]) := hide (by rw [hW]; exact Blk.new w _ _)
  obtain ⟨b6, hb6⟩ : ∃ b6, decide (kd = 6) = b6 := ⟨_, rfl⟩
  rw [hb6] at HBADR HDONE
  have hk6 : (kd == 6) = b6 := by rw [← hb6]; rfl
  clear hk hC hV hok IH hz hR hKL hb6
  go_enter Tryz.func36, Tryz.ntmps36
  go_wp2
  rw [← hW]
  clear hW
  go_loopw [2, 8, 10, 11, 12, 16] (fun p s _ _ _ i wr => ∃ (k : Nat) (ps : List Int) (vs : List TA) (pa : Option Addr) (sl : Option Addr) (cp : Nat), k ≤ KL ∧ i = .int .i64 k ∧ p = .pointer pa ∧ s = .slice sl k cp ∧ Hid (wr.ownsRow W.heap.size 3 1 (.slice sl k cp) k (ps.map (Value.int .i64))) ∧ Hid (IsVx wr wr.heap.size (Value.slice sl k cp).ownBlock (.pointer pa) vs.reverse) ∧ Hid (KT (findSig m ys) b6 nm kids vars k ps vs) ∧ Hid (Below W.heap.size W wr)) (fun _ _ _ _ _ i _ => KL - (intOf i).toNat)
  case atStart => exact ⟨0, [], vars, pa, none, 0, Nat.zero_le _, rfl, rfl, rfl, hide (World.ownsRow_nil _ _ _ _), hide ((unhide HV).kept (unhide HBW) (unhide HBW).size).x, hide (KT.start _ _ _ _ _), hide (Below.refl _ _)⟩
  case round =>
    obtain ⟨k, ps, vs, pa, sl, cp, hk, rfl, rfl, rfl, HROW, HVS, HKT, HB⟩ := hrel
    have HWR : Hid (Below w.heap.size w wr) := hide ((unhide HBW).trans ((unhide HB).mono (by rw [unhide HWS]; exact Nat.le_succ _)))
    have n0 := (unhide HN0).below (unhide HB) (by rw [unhide HWS]; exact Nat.lt_succ_self _)
    by_cases hp : k < KL
    · have hp2 : k < kids.length := by rw [unhide HKL]; exact hp
      rcases (unhide HK).kept (unhide HWR) (unhide HWR).size with hq | ⟨b, off, rfl, hbl, hbn, hcs⟩
      · rw [hq] at hp2; simp at hp2
      obtain ⟨c0, c1, c2, c3, c5, d0, d1, d2, d3, d4, hr⟩ := hcs k hp2
      have HCALL := hide (fun (W' : World) (hb : Below wr.heap.size wr W') => unhide HIH lo _ _ W' (.pointer pa) vs (IsE.kept hb hb.size _ _ _ hr) (ok_at (unhide HOK) hp2) ((unhide HC).kept ((unhide HWR).trans (hb.mono (unhide HWR).size))) ((unhide HVS).kept hb hb.size).isV)
      have HBAD := hide (fun hc => (unhide HKT).bad hp2 hc)
      have HNEXT := hide (fun hc => (unhide HKT).next hp2 hc)
      obtain ⟨Tt, hT⟩ : ∃ Tt, kids[k].typ (findSig m ys) vs = Tt := ⟨_, rfl⟩
      rw [hT] at HCALL HBAD HNEXT
      obtain ⟨t, c⟩ := Tt
      dsimp only at HCALL HBAD HNEXT
      have N0 := hide n0
      obtain ⟨z0, z1, z2, z3, z4, z5, z6, rfl, rfl, rfl, rfl, rfl⟩ := hr.form5
      clear hcs hr hT n0
      have hB1 : Below wr.heap.size wr (wr.alloc (.cells #[.int .i64 z0, .int .i64 z1, .string z2, .string z3, .slice z4 z5 z6] 31)) := (Below.refl _ _).alloc (Nat.le_refl _) _
      have HC1 := hide (unhide HCALL _ hB1)
      have HB1 := hide ((unhide HB).trans (hB1.mono (unhide HB).size))
      have HR1 := hide ((unhide HROW).alloc (.cells #[.int .i64 z0, .int .i64 z1, .string z2, .string z3, .slice z4 z5 z6] 31))
      have HV1 := hide ((unhide HVS).kept hB1 hB1.size)
      clear hB1 HCALL
      go_wp2_with fail
      refine (unhide HC1).mono ?_
      rintro r w2 ⟨v', rfl, hres, hb2⟩
      have HB2 := hide ((unhide HB1).trans (hb2.mono (unhide HB1).size))
      have HROW2 := hide (own_keptN (unhide HR1) hb2)
      have HV2 := hide ((unhide HV1).kept hb2 hb2.size)
      have n2 := (unhide HN0).below (unhide HB2) (by rw [unhide HWS]; exact Nat.lt_succ_self _)
      have e0 := n2.cellAt (i := 0) rfl
      have e2 := n2.cellAt (i := 2) rfl
      have hws2 : w.heap.size < w2.heap.size := Nat.lt_of_lt_of_le (by rw [unhide HWS]; exact Nat.lt_succ_self _) (unhide HB2).size
      clear hb2 HROW HB HC1 HB1 HR1 HV1 HVS d0 d1 d2 d3 d4 n2 HWR N0
      rcases hres with ⟨hc, hv'⟩ | ⟨hc, ee, hv', hee⟩
      · have hc' : c = 0 := hc
        have hv2 : v' = .tuple #[.int .i64 t, .nilIface] := hv'
        subst hc'
        subst hv2
        have HK3 := hide (unhide HNEXT rfl)
        clear HBAD HNEXT hc hv'
        have o0 : ∀ (o : Obj), (w2.alloc o).cell? ⟨w.heap.size, 0, none⟩ = some (.int .i64 kd) := fun o => (((Below.refl w2.heap.size w2).alloc (Nat.le_refl _) o).cell (p := ⟨w.heap.size, 0, none⟩) hws2).trans e0
        cases b6 with
        | false =>
          go_wp2_with (at_builtin; refine wpList_append_lies _ rfl _ _ 79 rfl W.heap.size 3 i0 (.int .i64 0) 1 8 Tryz.underlying79 hi hz0 hz1 hz2 rfl (by decide) (.slice sl k cp) k (ps.map (Value.int .i64)) rfl ((unhide HROW2).alloc _) ⟨w2.heap.size, 0, none⟩ 1 1 [.int .i64 t] rfl rfl (one_newN w2 (.int .i64 t) 3) (by simp [Value.oneCell']) (by decide) (by unfold maxLen; omega) (by omega) (by have := (unhide HB2).size; simp; omega) (w2.heap.size + 1) (by simp) ?_; intro g3 cp3 w3 hown3 hgrow3 hat3 hlt3; have hB3 := (unhide HB2).trans (((Below.refl _ w2).alloc (unhide HB2).size (.cells #[.int .i64 t] 3)).grown hgrow3 (by have := (unhide HB2).size; simp; omega) (fun q hq => (((unhide HROW2).lt q hq)).1)); have m0 := (hB3.cell (p := ⟨w.heap.size, 0, none⟩) (by show _ < _; rw [unhide HWS]; exact Nat.lt_succ_self _)).trans ((unhide HN0).cellAt (i := 0) rfl); have m2 := (hB3.cell (p := ⟨w.heap.size, 2, none⟩) (by show _ < _; rw [unhide HWS]; exact Nat.lt_succ_self _)).trans ((unhide HN0).cellAt (i := 2) rfl); have HV3 : Hid (IsVx w3 w3.heap.size (some g3) (.pointer pa) vs.reverse) := hide (IsVx.grown (n := w2.heap.size) hgrow3 (by simp) (by have := hgrow3.size; simp at this; omega) (hat3.elim (fun e => .inl e.symm) (fun e => .inr ⟨_, congrArg some e, Nat.le_succ _⟩)) ((unhide HV2).kept ((Below.refl _ _).alloc (Nat.le_refl _) _) (Nat.le_refl _))); have HB3 := hide hB3; have HO3 := hide hown3; clear hown3 hgrow3 hB3 hat3 e0 e2 o0)
          go_roundw
          case rel =>
            refine ⟨k + 1, ps ++ [t], vs, pa, _, _, by omega, by go_num, rfl, rfl, hide ?_, HV3, HK3, HB3⟩
            rw [List.map_append]
            exact unhide HO3
          case measure => simp [intOf]; omega
        | true =>
          go_wp2_with (at_builtin; refine wpList_append_lies _ rfl _ _ 79 rfl W.heap.size 3 i0 (.int .i64 0) 1 8 Tryz.underlying79 hi hz0 hz1 hz2 rfl (by decide) (.slice sl k cp) k (ps.map (Value.int .i64)) rfl ((unhide HROW2).alloc _) ⟨w2.heap.size, 0, none⟩ 1 1 [.int .i64 t] rfl rfl (one_newN w2 (.int .i64 t) 3) (by simp [Value.oneCell']) (by decide) (by unfold maxLen; omega) (by omega) (by have := (unhide HB2).size; simp; omega) (w2.heap.size + 1) (by simp) ?_; intro g3 cp3 w3 hown3 hgrow3 hat3 hlt3; have hB3 := (unhide HB2).trans (((Below.refl _ w2).alloc (unhide HB2).size (.cells #[.int .i64 t] 3)).grown hgrow3 (by have := (unhide HB2).size; simp; omega) (fun q hq => (((unhide HROW2).lt q hq)).1)); have m0 := (hB3.cell (p := ⟨w.heap.size, 0, none⟩) (by show _ < _; rw [unhide HWS]; exact Nat.lt_succ_self _)).trans ((unhide HN0).cellAt (i := 0) rfl); have m2 := (hB3.cell (p := ⟨w.heap.size, 2, none⟩) (by show _ < _; rw [unhide HWS]; exact Nat.lt_succ_self _)).trans ((unhide HN0).cellAt (i := 2) rfl); have HV3 : Hid (IsVx w3 w3.heap.size (some g3) (.pointer pa) vs.reverse) := hide (IsVx.grown (n := w2.heap.size) hgrow3 (by simp) (by have := hgrow3.size; simp at this; omega) (hat3.elim (fun e => .inl e.symm) (fun e => .inr ⟨_, congrArg some e, Nat.le_succ _⟩)) ((unhide HV2).kept ((Below.refl _ _).alloc (Nat.le_refl _) _) (Nat.le_refl _))); have HB3 := hide hB3; have HO3 := hide hown3; clear hown3 hgrow3 hB3 hat3 e0 e2 o0)
          go_roundw
          case rel =>
            have hBN : Below w3.heap.size w3 (w3.alloc (.cells #[.string nm, .int .i64 t, .pointer pa] 151)) := (Below.refl _ _).alloc (Nat.le_refl _) _
            refine ⟨k + 1, ps ++ [t], vs ++ [⟨nm, t⟩], some ⟨w3.heap.size, 0, none⟩, _, _, by omega, by go_num, rfl, rfl, hide ?_, hide ?_, HK3, hide ((unhide HB3).alloc (unhide HB3).size _)⟩
            · rw [List.map_append]
              exact (unhide HO3).alloc _
            · rw [List.reverse_append]
              exact ⟨w3.heap.size, .pointer pa, rfl, by simp, fun e => (by have e2 : some w3.heap.size = some g3 := e; have := Option.some.inj e2; omega), alloc_cell w3 _ _ 0, alloc_cell w3 _ _ 1, alloc_cell w3 _ _ 2, (unhide HV3).kept hBN (by simp)⟩
          case measure => simp [intOf]; omega
      · have hc' : c ≠ 0 := hc
        have hv2 : v' = .tuple #[.int .i64 0, ee] := hv'
        subst hv2
        have HX := hide (unhide HBADR _ _ _ (unhide HBAD hc') hc')
        have HEE := hide hee
        obtain ⟨eb, rfl, _, _, _⟩ := hee
        clear HBAD HNEXT hc hv' HBADR HDONE HRULE e0 e2
        go_wp2
        go_ret2
        refine ⟨_, rfl, ?_, (unhide HBW).trans ((unhide HB2).mono (by rw [unhide HWS]; exact Nat.le_succ _))⟩
        rw [unhide HX]
        exact Or.inr ⟨hc', _, rfl, unhide HEE⟩
    · have hkk : k = KL := by omega
      have hlen : ps.length = kids.length := by rw [(unhide HKT).1, unhide HKL]; exact hkk
      have HX := hide (unhide HDONE _ _ ((unhide HKT).done (by rw [unhide HKL]; omega)))
      obtain ⟨f, hlk, hcf, hcall⟩ := unhide HRULE ps vs (by rw [hlen, unhide HKL])
      obtain ⟨hc1, hc2, b, hc3, hc4⟩ := (unhide HC).kept (unhide HWR)
      obtain ⟨a', cap', he', hI⟩ := (own_of_row (unhide HROW)).ints
      have hpl : ps.length = KL := by rw [hlen, unhide HKL]
      rw [hpl] at he' hcall
      subst hkk
      cases he'
      have HCALL := hide (fun (W' : World) (hb : Below wr.heap.size wr W') => Calls.mono (hcall W.heap.size W' (.pointer pa) sl cp ((unhide HC).kept ((unhide HWR).trans (hb.mono (unhide HWR).size))) (hI.kept hb hb.size) ((unhide HVS).kept hb hb.size).isV) (fun r w' hh => show ∃ (x : Int) (y : Value), r = .returned (.tuple #[.int .i64 x, y]) ∧ IsRes w' w'.heap.size (.tuple #[.int .i64 x, y]) (ruleT (findSig m ys) kd nm md vs ps) place ∧ Below W'.heap.size W' w' from by
        obtain ⟨v, he, hr, hb'⟩ := hh
        obtain ⟨x, y, rfl⟩ := hr.form
        exact ⟨x, y, he, hr, hb'⟩))
      have hlook : (Instr.lookup 147 (.map (some b)) (.int .i64 kd) false).run Tryz.prog wr.drew = .ok (.func (.func f) #[] #[]) wr.drew := hlk wr.drew b (hc4.kept (Below.refl _ _).drew)
      have hen : ∀ W' : World, (callFunc f #[.pointer (some ⟨C, 0, none⟩), .agg #[.int .i64 kd, .int .i64 mm, .string nm, .string md, .slice ka k kc], .pointer pa, .slice sl k cp]).run Tryz.prog W' = .ok (.enter f #[.pointer (some ⟨C, 0, none⟩), .agg #[.int .i64 kd, .int .i64 mm, .string nm, .string md, .slice ka k kc], .pointer pa, .slice sl k cp]) W' := fun W' => hcf W' _ _ _ _
      have hCw : C < wr.heap.size := hc1.1
      have hww : w.heap.size < wr.heap.size := Nat.lt_of_lt_of_le (by rw [unhide HWS]; exact Nat.lt_succ_self _) (unhide HB).size
      have HSK := hide (fun (w' : World) (hb : Below wr.heap.size wr w') => (⟨(hb.cell (p := ⟨C, 4, none⟩) hCw).trans hc3, (n0.below hb hww).cellAt (i := 0) rfl, (n0.below hb hww).cellAt (i := 1) rfl, (n0.below hb hww).cellAt (i := 2) rfl, (n0.below hb hww).cellAt (i := 3) rfl, (n0.below hb hww).cellAt (i := 4) rfl⟩ : w'.cell? ⟨C, 4, none⟩ = some (.map (some b)) ∧ w'.cell? ⟨w.heap.size, 0, none⟩ = some (.int .i64 kd) ∧ w'.cell? ⟨w.heap.size, 1, none⟩ = some (.int .i64 mm) ∧ w'.cell? ⟨w.heap.size, 2, none⟩ = some (.string nm) ∧ w'.cell? ⟨w.heap.size, 3, none⟩ = some (.string md) ∧ w'.cell? ⟨w.heap.size, 4, none⟩ = some (.slice ka k kc)))
      clear hlk hcf hcall hc1 hc2 hc3 hc4 hI HDONE HBADR HRULE n0 hlen hpl
      go_wp2
      go_region_held3 (fun w' => w'.cell? ⟨C, 4, none⟩ = some (.map (some b)) ∧ w'.cell? ⟨w.heap.size, 0, none⟩ = some (.int .i64 kd) ∧ w'.cell? ⟨w.heap.size, 1, none⟩ = some (.int .i64 mm) ∧ w'.cell? ⟨w.heap.size, 2, none⟩ = some (.string nm) ∧ w'.cell? ⟨w.heap.size, 3, none⟩ = some (.string md) ∧ w'.cell? ⟨w.heap.size, 4, none⟩ = some (.slice ka k kc))
        (exact unhide HSK _ (by first | with_reducible exact Below.refl _ _ | with_reducible exact (Below.refl _ _).drew | with_reducible exact kW))
        (first | (refine (unhide HCALL _ (Below.refl _ _).drew).mono ?_; rintro r w5 ⟨x5, y5, rfl, hr5, hb5⟩; have kW : Below wr.heap.size wr w5 := (Below.refl _ wr).drew.trans hb5))
      all_goals
        have HR5 := hide hr5
        have HB5 := hide ((unhide HWR).trans (kW.mono (unhide HWR).size))
        clear hr5 hb5 hlook hen
        go_wp2
        go_ret2
        refine ⟨_, rfl, ?_, unhide HB5⟩
        rw [unhide HX]
        exact unhide HR5
theorem exprI_any (C : Nat) (m : TM) (ys : List TY) (place : Int) (hF : Fits m ys) : ∀ h : Nat, ExprI C m ys place h := by
  intro h
  induction h with
  | zero => intro lo v e w pv vars hE; exact hE.elim
  | succ h ih => exact exprI_step C m ys place hF h ih
end Go.Proofs.YtgmohnbjfemebaaGreatDoor
