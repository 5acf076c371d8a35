/- The walk of the law on CodeSame: it returns true and turns nothing that was there. Conditions: the objects can be read. -/
import Derived.Test.YtbabagdgnnkpeaaCp
import Derived.Test.YtbabagdgnnkpeaaCq
import Derived.Deep.RegionHeld3
namespace Go.Proofs.Ytbabagdgnnkpeaa
open Go.RowKit Go.PlainAid

theorem wt_of_leftC {L n : Nat} (h : ¬ leftI (L : Int) n < 0) : n ≤ L := by
  unfold leftI at h
  by_cases g : (n : Int) ≤ (L : Int)
  · omega
  · rw [if_neg g] at h; omega
theorem wtCfs_mem {l : List TC} {x : TC} (h : x ∈ l) : x.wt ≤ wtCfs l := by
  induction l with
  | nil => cases h
  | cons y t ih =>
    unfold wtCfs at ih ⊢
    rw [List.map_cons, List.sum_cons]
    rcases List.mem_cons.1 h with rfl | h
    · omega
    · have := ih h; omega
theorem IsObj.two {w : World} {lo n : Nat} {v : Value} {o : TO} (h : IsObj w lo n v o) : ∃ (aa : Option Addr) (la ca : Nat) (ba : Option Addr) (lb cb : Nat), v = .agg #[.slice aa la ca, .slice ba lb cb] := by
  obtain ⟨aa, ca, ba, cb, hv, _⟩ := h
  exact ⟨_, _, _, _, _, _, hv⟩
/-- What stays while the law is walked: all that was there, and the blocks of its own from lo on. -/
structure StC (w : World) (lo : Nat) (W : World) : Prop where
  bel : Below w.heap.size w W
  le : lo ≤ W.heap.size
theorem StC.next {w W W' : World} {lo : Nat} (h : StC w lo W) (k : Below W.heap.size W W') : StC w lo W' := ⟨h.bel.trans (k.mono h.bel.size), Nat.le_trans h.le k.size⟩

set_option maxRecDepth 100000 in
set_option maxHeartbeats 4000000 in
theorem fnExactCodeSame_walk (v0 : Value) (a : TO) (v1 : Value) (b : TO) (w : World) (hA : IsObj w 0 w.heap.size v0 a) (hB : IsObj w 0 w.heap.size v1 b) :
    Calls Try.prog 3 #[v0, v1] w fun e w' => e = .returned (.bool true) ∧ Below w.heap.size w w' := by
  obtain ⟨x0, x1, x2, x3, x4, x5, hv0⟩ := hA.two
  obtain ⟨y0, y1, y2, y3, y4, y5, hv1⟩ := hB.two
  subst hv0 hv1
  obtain ⟨W, hW⟩ : ∃ W, W = (w.alloc (.cells #[.slice x0 x1 x2, .slice x3 x4 x5] 25)).alloc (.cells #[.slice y0 y1 y2, .slice y3 y4 y5] 25) := ⟨_, rfl⟩
  have hBW : Below w.heap.size w W := by rw [hW]; exact ((Below.refl _ _).alloc (Nat.le_refl _) _).alloc (by simp) _
  have hb1 : Blk W w.heap.size [.slice x0 x1 x2, .slice x3 x4 x5] := by rw [hW]; exact (Blk.new w [.slice x0 x1 x2, .slice x3 x4 x5] 25).old _ (by simp)
  have hb2 : Blk W (w.heap.size + 1) [.slice y0 y1 y2, .slice y3 y4 y5] := by
    have := Blk.new (w.alloc (.cells #[.slice x0 x1 x2, .slice x3 x4 x5] 25)) [.slice y0 y1 y2, .slice y3 y4 y5] 25
    rw [alloc_size] at this
    rw [hW]; exact this
  have hsz : W.heap.size = w.heap.size + 2 := by rw [hW]; simp
  have S0 : Hid (StC w (w.heap.size + 2) W) := hide ⟨hBW, by omega⟩
  have A0 := hide hb1
  have B0 := hide hb2
  have HA := hide hA
  have HB := hide hB
  have HSZ := hide (szCodeObj_any 0 _ a W 1048576 (hA.kept hBW hBW.size) (by omega) (by omega))
  clear hA hB hBW hb1 hb2 hsz
  go_enter Try.func3, Try.ntmps3
  go_wp2_with fail
  rw [← hW]
  clear hW
  refine (unhide HSZ).mono ?_
  rintro r w1 ⟨rfl, hb1⟩
  have S1 := hide ((unhide S0).next hb1)
  have A1 := hide ((unhide A0).below hb1 (by have := (unhide S0).le; omega))
  have B1 := hide ((unhide B0).below hb1 (by have := (unhide S0).le; omega))
  clear hb1 S0 A0 B0
  clear HSZ
  by_cases hlt : leftI 1048576 a.wt < 0
  · generalize leftI 1048576 a.wt = L at hlt
    go_wp2
    go_ret
    exact ⟨rfl, (unhide S1).bel⟩
  have hwt : a.wt ≤ 1048576 := wt_of_leftC (L := 1048576) hlt
  have el : leftI 1048576 a.wt = ((1048576 - a.wt : Nat) : Int) := by rw [left_yes (by omega)]; omega
  rw [el] at hlt ⊢
  obtain ⟨L, hL⟩ : ∃ L, 1048576 - a.wt = L := ⟨_, rfl⟩
  rw [hL] at hlt ⊢
  have hL2 : L ≤ 1048576 := by omega
  have HWA := hide hwt
  have HSZ := hide (szCodeObj_any 0 _ b w1 (L : Int) ((unhide HB).kept (unhide S1).bel (unhide S1).bel.size) (by omega) (by omega))
  clear el hL hwt hlt
  have zB0 : w1.cell? ⟨w.heap.size + 1, 0, none⟩ = some (.slice y0 y1 y2) := (unhide B1).1 0
  have zB1 : w1.cell? ⟨w.heap.size + 1, 1, none⟩ = some (.slice y3 y4 y5) := (unhide B1).1 1
  go_wp2_with fail
  clear zB0 zB1
  refine (unhide HSZ).mono ?_
  rintro r w2 ⟨rfl, hb2⟩
  have S2 := hide ((unhide S1).next hb2)
  have A2 := hide ((unhide A1).below hb2 (by have := (unhide S1).le; omega))
  have B2 := hide ((unhide B1).below hb2 (by have := (unhide S1).le; omega))
  clear hb2 S1 A1 B1
  clear HSZ
  by_cases hlt : leftI (L : Int) b.wt < 0
  · generalize leftI (L : Int) b.wt = L at hlt
    go_wp2
    go_ret
    exact ⟨rfl, (unhide S2).bel⟩
  have hwb := wt_of_leftC hlt
  have HWB : Hid (b.wt ≤ 1048576) := hide (by omega)
  generalize leftI (L : Int) b.wt = L' at hlt
  clear hwb hL2
  have HN : Hid (∀ x ∈ a.funs, x.args.length ≤ 1048576) := hide (fun x hx => by
    have h1 := wtCfs_mem hx
    have h2 := unhide HWA
    have h3 : a.wt = (a.refs.length + wtCrs a.refs) + (a.funs.length + wtCfs a.funs) := rfl
    have h4 : x.wt = x.name.size + x.args.length + x.code.length := rfl
    omega)
  have HTA := hide (fun (W : World) (hb : Below w.heap.size w W) => toCodeObj_any 0 _ a W ((unhide HA).kept hb hb.size) (unhide HWA))
  have HTB := hide (fun (W : World) (hb : Below w.heap.size w W) => toCodeObj_any 0 _ b W ((unhide HB).kept hb hb.size) (unhide HWB))
  clear HA HB HWA HWB
  have HSK := hide (fun (w' : World) (hb : Below w2.heap.size w2 w') => (⟨((unhide A2).below hb (by have := (unhide S2).le; omega)).cellAt (i := 0) rfl, ((unhide A2).below hb (by have := (unhide S2).le; omega)).cellAt (i := 1) rfl, ((unhide B2).below hb (by have := (unhide S2).le; omega)).cellAt (i := 0) rfl, ((unhide B2).below hb (by have := (unhide S2).le; omega)).cellAt (i := 1) rfl⟩ : w'.cell? ⟨w.heap.size, 0, none⟩ = some (.slice x0 x1 x2) ∧ w'.cell? ⟨w.heap.size, 1, none⟩ = some (.slice x3 x4 x5) ∧ w'.cell? ⟨w.heap.size + 1, 0, none⟩ = some (.slice y0 y1 y2) ∧ w'.cell? ⟨w.heap.size + 1, 1, none⟩ = some (.slice y3 y4 y5)))
  go_wp2
  go_region_held3 (fun w' => w'.cell? ⟨w.heap.size, 0, none⟩ = some (.slice x0 x1 x2) ∧ w'.cell? ⟨w.heap.size, 1, none⟩ = some (.slice x3 x4 x5) ∧ w'.cell? ⟨w.heap.size + 1, 0, none⟩ = some (.slice y0 y1 y2) ∧ w'.cell? ⟨w.heap.size + 1, 1, none⟩ = some (.slice y3 y4 y5))
    (exact unhide HSK _ (by first | with_reducible exact q5 | with_reducible exact q4 | with_reducible exact q3 | with_reducible exact Below.refl _ _ | with_reducible exact (Below.refl _ _).drew))
    (first | (go_at_call 6; (with_reducible refine (unhide HTA _ ?hb).mono ?_); (case hb => exact (unhide S2).bel.drew); rintro r w3 ⟨u3, rfl, hk3, hb3⟩; have q3 : Below w2.heap.size w2 w3 := (Below.refl _ w2).drew.trans hb3) | (go_at_call 6; (with_reducible refine (unhide HTB _ ?hb).mono ?_); (case hb => exact (unhide S2).bel.trans (q3.mono (unhide S2).bel.size)); rintro r w4 ⟨u4, rfl, hk4, hb4⟩; have q4 : Below w2.heap.size w2 w4 := q3.trans (hb4.mono q3.size)) | (go_at_call 5; refine (CodeSameS_any _ _ u3 u4 a b w4 (hk3.kept hb4 hb4.size) hk4).mono ?_; rintro r w5 ⟨rfl, hb5⟩; have q5 : Below w2.heap.size w2 w5 := q4.trans (hb5.mono q4.size)))
  have S5 := hide ((unhide S2).next q5)
  have A5 := hide ((unhide A2).below q5 (by have := (unhide S2).le; omega))
  have B5 := hide ((unhide B2).below q5 (by have := (unhide S2).le; omega))
  clear hk3 hk4 hb3 hb4 hb5 q3 q4 q5 S2 A2 B2 HSK
  have zA0 : w5.cell? ⟨w.heap.size, 0, none⟩ = some (.slice x0 x1 x2) := (unhide A5).1 0
  have zA1 : w5.cell? ⟨w.heap.size, 1, none⟩ = some (.slice x3 x4 x5) := (unhide A5).1 1
  have zB0 : w5.cell? ⟨w.heap.size + 1, 0, none⟩ = some (.slice y0 y1 y2) := (unhide B5).1 0
  have zB1 : w5.cell? ⟨w.heap.size + 1, 1, none⟩ = some (.slice y3 y4 y5) := (unhide B5).1 1
  go_wp2_with fail
  clear zA0 zA1 zB0 zB1
  refine (unhide HTA _ (unhide S5).bel).mono ?_
  rintro r w6 ⟨u6, rfl, hk6, hb6⟩
  have S6 := hide ((unhide S5).next hb6)
  have A6 := hide ((unhide A5).below hb6 (by have := (unhide S5).le; omega))
  have B6 := hide ((unhide B5).below hb6 (by have := (unhide S5).le; omega))
  have K6 := hide hk6
  clear hb6 S5 A5 B5
  obtain ⟨p0, p1, p2, p3, p4, p5, rfl⟩ := hk6.two
  clear hk6
  obtain ⟨D, hD⟩ : ∃ D, D = w6.alloc (.cells #[.slice p0 p1 p2, .slice p3 p4 p5] 31) := ⟨_, rfl⟩
  have hbD : Below w6.heap.size w6 D := by rw [hD]; exact (Below.refl _ _).alloc (Nat.le_refl _) _
  have hDS : D.heap.size = w6.heap.size + 1 := by rw [hD]; simp
  have S7 : Hid (StC w (w6.heap.size + 1) D) := hide ⟨((unhide S6).next hbD).bel, by omega⟩
  have hle : w.heap.size + 2 ≤ w6.heap.size := (unhide S6).le
  have A7 := hide ((unhide A6).below hbD (by omega))
  have B7 := hide ((unhide B6).below hbD (by omega))
  have X7 := hide (show Blk D w6.heap.size [.slice p0 p1 p2, .slice p3 p4 p5] by rw [hD]; exact Blk.new w6 _ _)
  have K7 := hide ((unhide K6).kept hbD hbD.size)
  have HLE := hide hle
  have zB0 : (w6.alloc (.cells #[.slice p0 p1 p2, .slice p3 p4 p5] 31)).cell? ⟨w.heap.size + 1, 0, none⟩ = some (.slice y0 y1 y2) := by rw [← hD]; exact (unhide B7).1 0
  have zB1 : (w6.alloc (.cells #[.slice p0 p1 p2, .slice p3 p4 p5] 31)).cell? ⟨w.heap.size + 1, 1, none⟩ = some (.slice y3 y4 y5) := by rw [← hD]; exact (unhide B7).1 1
  clear hbD hDS S6 A6 B6 K6 hle
  go_wp2_with fail
  rw [← hD]
  clear hD zB0 zB1
  refine (unhide HTB _ (unhide S7).bel).mono ?_
  rintro r w8 ⟨u8, rfl, hk8, hb8⟩
  have S8 := hide ((unhide S7).next hb8)
  have A8 := hide ((unhide A7).below hb8 (by have := (unhide S7).le; have := unhide HLE; omega))
  have B8 := hide ((unhide B7).below hb8 (by have := (unhide S7).le; have := unhide HLE; omega))
  have X8 := hide ((unhide X7).below hb8 (by have := (unhide S7).le; have := unhide HLE; omega))
  have K8 := hide hk8
  have K7b := hide ((unhide K7).kept hb8 hb8.size)
  clear hb8 S7 A7 B7 X7
  obtain ⟨q0, q1, q2, q3, q4, q5, rfl⟩ := hk8.two
  clear hk8 K7
  obtain ⟨D, hD⟩ : ∃ D, D = w8.alloc (.cells #[.slice q0 q1 q2, .slice q3 q4 q5] 31) := ⟨_, rfl⟩
  have hbD : Below w8.heap.size w8 D := by rw [hD]; exact (Below.refl _ _).alloc (Nat.le_refl _) _
  have hDS : D.heap.size = w8.heap.size + 1 := by rw [hD]; simp
  have hle8 : w6.heap.size + 1 ≤ w8.heap.size := (unhide S8).le
  have HLE8 := hide hle8
  have S9 : Hid (StC w (w8.heap.size + 1) D) := hide ⟨((unhide S8).next hbD).bel, by omega⟩
  have A9 := hide ((unhide A8).below hbD (by have := unhide HLE; omega))
  have B9 := hide ((unhide B8).below hbD (by have := unhide HLE; omega))
  have X9 := hide ((unhide X8).below hbD (by omega))
  have Y9 := hide (show Blk D w8.heap.size [.slice q0 q1 q2, .slice q3 q4 q5] by rw [hD]; exact Blk.new w8 _ _)
  have K9 := hide ((unhide K7b).kept hbD hbD.size)
  have L9 := hide ((unhide K8).kept hbD hbD.size)
  have HOI := hide (CodeSameI_any _ _ _ _ a b D (unhide K9) (unhide L9) (unhide HN))
  have zX0 : (w8.alloc (.cells #[.slice q0 q1 q2, .slice q3 q4 q5] 31)).cell? ⟨w6.heap.size, 0, none⟩ = some (.slice p0 p1 p2) := by rw [← hD]; exact (unhide X9).1 0
  have zX1 : (w8.alloc (.cells #[.slice q0 q1 q2, .slice q3 q4 q5] 31)).cell? ⟨w6.heap.size, 1, none⟩ = some (.slice p3 p4 p5) := by rw [← hD]; exact (unhide X9).1 1
  clear hbD hDS S8 A8 B8 X8 K8 K7b hle8
  go_wp2_with fail
  rw [← hD]
  clear hD zX0 zX1
  refine (unhide HOI).mono ?_
  rintro r w10 ⟨rfl, hb10⟩
  have S10 := hide ((unhide S9).next hb10)
  have A10 := hide ((unhide A9).below hb10 (by have := (unhide S9).le; have := unhide HLE; have := unhide HLE8; omega))
  have B10 := hide ((unhide B9).below hb10 (by have := (unhide S9).le; have := unhide HLE; have := unhide HLE8; omega))
  have X10 := hide ((unhide X9).below hb10 (by have := (unhide S9).le; have := unhide HLE; have := unhide HLE8; omega))
  have Y10 := hide ((unhide Y9).below hb10 (by have := (unhide S9).le; have := unhide HLE; have := unhide HLE8; omega))
  have K10 := hide ((unhide K9).kept hb10 hb10.size)
  have L10 := hide ((unhide L9).kept hb10 hb10.size)
  clear hb10 S9 A9 B9 X9 Y9
  clear HOI K9 L9
  have hq : (objB a b != objB a b) = false := by simp
  generalize objB a b = B at hq
  have HSK := hide (fun (w' : World) (hb : Below w10.heap.size w10 w') => (⟨((unhide A10).below hb (by have := (unhide S10).le; have := unhide HLE; have := unhide HLE8; omega)).cellAt (i := 0) rfl, ((unhide A10).below hb (by have := (unhide S10).le; have := unhide HLE; have := unhide HLE8; omega)).cellAt (i := 1) rfl, ((unhide B10).below hb (by have := (unhide S10).le; have := unhide HLE; have := unhide HLE8; omega)).cellAt (i := 0) rfl, ((unhide B10).below hb (by have := (unhide S10).le; have := unhide HLE; have := unhide HLE8; omega)).cellAt (i := 1) rfl, ((unhide X10).below hb (by have := (unhide S10).le; have := unhide HLE; have := unhide HLE8; omega)).cellAt (i := 0) rfl, ((unhide X10).below hb (by have := (unhide S10).le; have := unhide HLE; have := unhide HLE8; omega)).cellAt (i := 1) rfl, ((unhide Y10).below hb (by have := (unhide S10).le; have := unhide HLE; have := unhide HLE8; omega)).cellAt (i := 0) rfl, ((unhide Y10).below hb (by have := (unhide S10).le; have := unhide HLE; have := unhide HLE8; omega)).cellAt (i := 1) rfl⟩ : w'.cell? ⟨w.heap.size, 0, none⟩ = some (.slice x0 x1 x2) ∧ w'.cell? ⟨w.heap.size, 1, none⟩ = some (.slice x3 x4 x5) ∧ w'.cell? ⟨w.heap.size + 1, 0, none⟩ = some (.slice y0 y1 y2) ∧ w'.cell? ⟨w.heap.size + 1, 1, none⟩ = some (.slice y3 y4 y5) ∧ w'.cell? ⟨w6.heap.size, 0, none⟩ = some (.slice p0 p1 p2) ∧ w'.cell? ⟨w6.heap.size, 1, none⟩ = some (.slice p3 p4 p5) ∧ w'.cell? ⟨w8.heap.size, 0, none⟩ = some (.slice q0 q1 q2) ∧ w'.cell? ⟨w8.heap.size, 1, none⟩ = some (.slice q3 q4 q5)))
  go_wp2
  go_region_held3 (fun w' => w'.cell? ⟨w.heap.size, 0, none⟩ = some (.slice x0 x1 x2) ∧ w'.cell? ⟨w.heap.size, 1, none⟩ = some (.slice x3 x4 x5) ∧ w'.cell? ⟨w.heap.size + 1, 0, none⟩ = some (.slice y0 y1 y2) ∧ w'.cell? ⟨w.heap.size + 1, 1, none⟩ = some (.slice y3 y4 y5) ∧ w'.cell? ⟨w6.heap.size, 0, none⟩ = some (.slice p0 p1 p2) ∧ w'.cell? ⟨w6.heap.size, 1, none⟩ = some (.slice p3 p4 p5) ∧ w'.cell? ⟨w8.heap.size, 0, none⟩ = some (.slice q0 q1 q2) ∧ w'.cell? ⟨w8.heap.size, 1, none⟩ = some (.slice q3 q4 q5))
    (exact unhide HSK _ (by first | with_reducible exact q12 | with_reducible exact q11 | with_reducible exact Below.refl _ _ | with_reducible exact (Below.refl _ _).drew))
    (first | (go_at_call 6; refine (unhide HTA _ (unhide S10).bel.drew).mono ?_; rintro r w11 ⟨u11, rfl, hk11, hb11⟩; have q11 : Below w10.heap.size w10 w11 := (Below.refl _ w10).drew.trans hb11) | (go_at_call 8; refine (eqCodeObj_any _ _ _ u11 a w11 ((unhide K10).kept q11 q11.size) hk11).mono ?_; rintro r w12 ⟨rfl, hb12⟩; have q12 : Below w10.heap.size w10 w12 := q11.trans (hb12.mono q11.size)))
  have S12 := hide ((unhide S10).next q12)
  have A12 := hide ((unhide A10).below q12 (by have := (unhide S10).le; have := unhide HLE; have := unhide HLE8; omega))
  have B12 := hide ((unhide B10).below q12 (by have := (unhide S10).le; have := unhide HLE; have := unhide HLE8; omega))
  have X12 := hide ((unhide X10).below q12 (by have := (unhide S10).le; have := unhide HLE; have := unhide HLE8; omega))
  have Y12 := hide ((unhide Y10).below q12 (by have := (unhide S10).le; have := unhide HLE; have := unhide HLE8; omega))
  have L12 := hide ((unhide L10).kept q12 q12.size)
  clear hk11 hb11 hb12 q11 q12 S10 A10 B10 X10 Y10 L10 HSK
  clear K10 HTA
  have HSK := hide (fun (w' : World) (hb : Below w12.heap.size w12 w') => (⟨((unhide A12).below hb (by have := (unhide S12).le; have := unhide HLE; have := unhide HLE8; omega)).cellAt (i := 0) rfl, ((unhide A12).below hb (by have := (unhide S12).le; have := unhide HLE; have := unhide HLE8; omega)).cellAt (i := 1) rfl, ((unhide B12).below hb (by have := (unhide S12).le; have := unhide HLE; have := unhide HLE8; omega)).cellAt (i := 0) rfl, ((unhide B12).below hb (by have := (unhide S12).le; have := unhide HLE; have := unhide HLE8; omega)).cellAt (i := 1) rfl, ((unhide X12).below hb (by have := (unhide S12).le; have := unhide HLE; have := unhide HLE8; omega)).cellAt (i := 0) rfl, ((unhide X12).below hb (by have := (unhide S12).le; have := unhide HLE; have := unhide HLE8; omega)).cellAt (i := 1) rfl, ((unhide Y12).below hb (by have := (unhide S12).le; have := unhide HLE; have := unhide HLE8; omega)).cellAt (i := 0) rfl, ((unhide Y12).below hb (by have := (unhide S12).le; have := unhide HLE; have := unhide HLE8; omega)).cellAt (i := 1) rfl⟩ : w'.cell? ⟨w.heap.size, 0, none⟩ = some (.slice x0 x1 x2) ∧ w'.cell? ⟨w.heap.size, 1, none⟩ = some (.slice x3 x4 x5) ∧ w'.cell? ⟨w.heap.size + 1, 0, none⟩ = some (.slice y0 y1 y2) ∧ w'.cell? ⟨w.heap.size + 1, 1, none⟩ = some (.slice y3 y4 y5) ∧ w'.cell? ⟨w6.heap.size, 0, none⟩ = some (.slice p0 p1 p2) ∧ w'.cell? ⟨w6.heap.size, 1, none⟩ = some (.slice p3 p4 p5) ∧ w'.cell? ⟨w8.heap.size, 0, none⟩ = some (.slice q0 q1 q2) ∧ w'.cell? ⟨w8.heap.size, 1, none⟩ = some (.slice q3 q4 q5)))
  go_wp2
  go_region_held3 (fun w' => w'.cell? ⟨w.heap.size, 0, none⟩ = some (.slice x0 x1 x2) ∧ w'.cell? ⟨w.heap.size, 1, none⟩ = some (.slice x3 x4 x5) ∧ w'.cell? ⟨w.heap.size + 1, 0, none⟩ = some (.slice y0 y1 y2) ∧ w'.cell? ⟨w.heap.size + 1, 1, none⟩ = some (.slice y3 y4 y5) ∧ w'.cell? ⟨w6.heap.size, 0, none⟩ = some (.slice p0 p1 p2) ∧ w'.cell? ⟨w6.heap.size, 1, none⟩ = some (.slice p3 p4 p5) ∧ w'.cell? ⟨w8.heap.size, 0, none⟩ = some (.slice q0 q1 q2) ∧ w'.cell? ⟨w8.heap.size, 1, none⟩ = some (.slice q3 q4 q5))
    (exact unhide HSK _ (by first | with_reducible exact q14 | with_reducible exact q13 | with_reducible exact Below.refl _ _ | with_reducible exact (Below.refl _ _).drew))
    (first | (go_at_call 6; refine (unhide HTB _ (unhide S12).bel.drew).mono ?_; rintro r w13 ⟨u13, rfl, hk13, hb13⟩; have q13 : Below w12.heap.size w12 w13 := (Below.refl _ w12).drew.trans hb13) | (go_at_call 8; refine (eqCodeObj_any _ _ _ u13 b w13 ((unhide L12).kept q13 q13.size) hk13).mono ?_; rintro r w14 ⟨rfl, hb14⟩; have q14 : Below w12.heap.size w12 w14 := q13.trans (hb14.mono q13.size)))
  have S14 := hide ((unhide S12).next q14)
  have A14 := hide ((unhide A12).below q14 (by have := (unhide S12).le; have := unhide HLE; have := unhide HLE8; omega))
  have B14 := hide ((unhide B12).below q14 (by have := (unhide S12).le; have := unhide HLE; have := unhide HLE8; omega))
  have X14 := hide ((unhide X12).below q14 (by have := (unhide S12).le; have := unhide HLE; have := unhide HLE8; omega))
  have Y14 := hide ((unhide Y12).below q14 (by have := (unhide S12).le; have := unhide HLE; have := unhide HLE8; omega))
  have L14 := hide ((unhide L12).kept q14 q14.size)
  clear hk13 hb13 hb14 q13 q14 S12 A12 B12 X12 Y12 L12 HSK
  go_wp2
  go_ret
  exact ⟨rfl, (unhide S14).bel⟩
end Go.Proofs.Ytbabagdgnnkpeaa
