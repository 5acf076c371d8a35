/- The walk of the law on ObjOk: it returns true and turns nothing that was there. Conditions: the object can be read. -/
import Derived.Test.YtifcfjjlgehopaaBjf
import Derived.Deep.RegionHeld3
namespace Go.Proofs.Ytifcfjjlgehopaa
open Go.RowKit Go.PlainAid

theorem wt_of_leftO {L n : Nat} (h : ¬ leftI (L : Int) n < 0) : n ≤ L := by
  unfold leftI at h
  by_cases g : (n : Int) ≤ (L : Int)
  · omega
  · rw [if_neg g] at h; omega
theorem wtCfs_memO {l : List TC} {x : TC} (h : x ∈ l) : x.wt ≤ wtCfs l := by
  induction l with
  | nil => cases h
  | cons y t ih =>
    unfold wtCfs at ih ⊢
    rw [List.map_cons, List.sum_cons]
    rcases List.mem_cons.1 h with rfl | h
    · omega
    · have := ih h; omega
theorem IsObj.twoO {w : World} {lo n : Nat} {v : Value} {o : TO} (h : IsObj w lo n v o) : ∃ (aa : Option Addr) (la ca : Nat) (ba : Option Addr) (lb cb : Nat), v = .agg #[.slice aa la ca, .slice ba lb cb] := by
  obtain ⟨aa, ca, ba, cb, hv, _⟩ := h
  exact ⟨_, _, _, _, _, _, hv⟩
/-- What stays while the law is walked: all that was there, and the blocks of its own from lo on. -/
structure StO (w : World) (lo : Nat) (W : World) : Prop where
  bel : Below w.heap.size w W
  le : lo ≤ W.heap.size
theorem StO.next {w W W' : World} {lo : Nat} (h : StO w lo W) (k : Below W.heap.size W W') : StO w lo W' := ⟨h.bel.trans (k.mono h.bel.size), Nat.le_trans h.le k.size⟩

set_option maxRecDepth 100000 in
set_option maxHeartbeats 4000000 in
theorem fnExactObjOk_walk (v0 : Value) (a : TO) (w : World) (hA : IsObj w 0 w.heap.size v0 a) :
    Calls Try.prog 5 #[v0] w fun e w' => e = .returned (.bool true) ∧ Below w.heap.size w w' := by
  obtain ⟨x0, x1, x2, x3, x4, x5, hv0⟩ := hA.twoO
  subst hv0
  obtain ⟨W, hW⟩ : ∃ W, W = w.alloc (.cells #[.slice x0 x1 x2, .slice x3 x4 x5] 33) := ⟨_, rfl⟩
  have hBW : Below w.heap.size w W := by rw [hW]; exact (Below.refl _ _).alloc (Nat.le_refl _) _
  have hb1 : Blk W w.heap.size [.slice x0 x1 x2, .slice x3 x4 x5] := by rw [hW]; exact Blk.new w [.slice x0 x1 x2, .slice x3 x4 x5] 33
  have hsz : W.heap.size = w.heap.size + 1 := by rw [hW]; simp
  have S0 : Hid (StO w (w.heap.size + 1) W) := hide ⟨hBW, by omega⟩
  have A0 := hide hb1
  have HA := hide hA
  have HSZ := hide (szCodeObj_any 0 _ a W 1048576 (hA.kept hBW hBW.size) (by omega) (by omega))
  clear hA hBW hb1 hsz
  go_enter Try.func5, Try.ntmps5
  go_wp2_with fail
  rw [← hW]
  clear hW
  refine (unhide HSZ).mono ?_
  rintro r w1 ⟨rfl, hb1⟩
  have S1 := hide ((unhide S0).next hb1)
  have A1 := hide ((unhide A0).below hb1 (by have := (unhide S0).le; omega))
  clear hb1 S0 A0
  clear HSZ
  by_cases hlt : leftI 1048576 a.wt < 0
  · generalize leftI 1048576 a.wt = L at hlt
    go_wp2
    go_ret
    exact ⟨rfl, (unhide S1).bel⟩
  have hwt : a.wt ≤ 1048576 := wt_of_leftO (L := 1048576) hlt
  generalize leftI 1048576 a.wt = L' at hlt
  have HN : Hid (∀ x ∈ a.funs, x.code.length ≤ 1048576) := hide (fun x hx => by
    have h1 := wtCfs_memO hx
    have h3 : a.wt = (a.refs.length + wtCrs a.refs) + (a.funs.length + wtCfs a.funs) := rfl
    have h4 : x.wt = x.name.size + x.args.length + x.code.length := rfl
    omega)
  have HTA := hide (fun (W : World) (hb : Below w.heap.size w W) => toCodeObj_any 0 _ a W ((unhide HA).kept hb hb.size) hwt)
  clear HA hwt
  have zA0 : w1.cell? ⟨w.heap.size, 0, none⟩ = some (.slice x0 x1 x2) := (unhide A1).1 0
  have zA1 : w1.cell? ⟨w.heap.size, 1, none⟩ = some (.slice x3 x4 x5) := (unhide A1).1 1
  go_wp2_with fail
  refine (unhide HTA _ (unhide S1).bel).mono ?_
  rintro r w2 ⟨u2, rfl, hk2, hb2⟩
  have S2 := hide ((unhide S1).next hb2)
  have A2 := hide ((unhide A1).below hb2 (by have := (unhide S1).le; omega))
  clear hb2 S1 A1 zA0 zA1
  have HOS := hide (ObjOkS_any _ _ a w2 hk2 (unhide HN))
  clear hk2
  go_wp2_with fail
  refine (unhide HOS).mono ?_
  rintro r w3 ⟨rfl, hb3⟩
  have S3 := hide ((unhide S2).next hb3)
  have A3 := hide ((unhide A2).below hb3 (by have := (unhide S2).le; omega))
  clear hb3 S2 A2 HOS
  have zA0 : w3.cell? ⟨w.heap.size, 0, none⟩ = some (.slice x0 x1 x2) := (unhide A3).1 0
  have zA1 : w3.cell? ⟨w.heap.size, 1, none⟩ = some (.slice x3 x4 x5) := (unhide A3).1 1
  go_wp2_with fail
  clear zA0 zA1
  refine (unhide HTA _ (unhide S3).bel).mono ?_
  rintro r w6 ⟨u6, rfl, hk6, hb6⟩
  have S6 := hide ((unhide S3).next hb6)
  have A6 := hide ((unhide A3).below hb6 (by have := (unhide S3).le; omega))
  have K6 := hide hk6
  clear hb6 S3 A3
  obtain ⟨p0, p1, p2, p3, p4, p5, rfl⟩ := hk6.twoO
  clear hk6
  obtain ⟨D, hD⟩ : ∃ D, D = w6.alloc (.cells #[.slice p0 p1 p2, .slice p3 p4 p5] 39) := ⟨_, rfl⟩
  have hbD : Below w6.heap.size w6 D := by rw [hD]; exact (Below.refl _ _).alloc (Nat.le_refl _) _
  have hDS : D.heap.size = w6.heap.size + 1 := by rw [hD]; simp
  have S7 : Hid (StO w (w6.heap.size + 1) D) := hide ⟨((unhide S6).next hbD).bel, by omega⟩
  have hle : w.heap.size + 1 ≤ w6.heap.size := (unhide S6).le
  have A7 := hide ((unhide A6).below hbD (by omega))
  have X7 := hide (show Blk D w6.heap.size [.slice p0 p1 p2, .slice p3 p4 p5] by rw [hD]; exact Blk.new w6 _ _)
  have K7 := hide ((unhide K6).kept hbD hbD.size)
  have HLE := hide hle
  have HOI := hide (ObjOkI_any _ _ a D (unhide K7))
  have zX0 : (w6.alloc (.cells #[.slice p0 p1 p2, .slice p3 p4 p5] 39)).cell? ⟨w6.heap.size, 0, none⟩ = some (.slice p0 p1 p2) := by rw [← hD]; exact (unhide X7).1 0
  have zX1 : (w6.alloc (.cells #[.slice p0 p1 p2, .slice p3 p4 p5] 39)).cell? ⟨w6.heap.size, 1, none⟩ = some (.slice p3 p4 p5) := by rw [← hD]; exact (unhide X7).1 1
  clear hbD hDS S6 A6 K6 hle
  go_wp2_with fail
  rw [← hD]
  clear hD zX0 zX1
  refine (unhide HOI).mono ?_
  rintro r w10 ⟨rfl, hb10⟩
  have S10 := hide ((unhide S7).next hb10)
  have A10 := hide ((unhide A7).below hb10 (by have := (unhide S7).le; have := unhide HLE; omega))
  have X10 := hide ((unhide X7).below hb10 (by have := (unhide S7).le; have := unhide HLE; omega))
  have K10 := hide ((unhide K7).kept hb10 hb10.size)
  clear hb10 S7 A7 X7
  clear HOI K7
  have hq : (a.ok != a.ok) = false := by simp
  generalize a.ok = B at hq
  have HSK := hide (fun (w' : World) (hb : Below w10.heap.size w10 w') => (⟨((unhide A10).below hb (by have := (unhide S10).le; have := unhide HLE; omega)).cellAt (i := 0) rfl, ((unhide A10).below hb (by have := (unhide S10).le; have := unhide HLE; omega)).cellAt (i := 1) rfl, ((unhide X10).below hb (by have := (unhide S10).le; have := unhide HLE; omega)).cellAt (i := 0) rfl, ((unhide X10).below hb (by have := (unhide S10).le; have := unhide HLE; omega)).cellAt (i := 1) rfl⟩ : w'.cell? ⟨w.heap.size, 0, none⟩ = some (.slice x0 x1 x2) ∧ w'.cell? ⟨w.heap.size, 1, none⟩ = some (.slice x3 x4 x5) ∧ w'.cell? ⟨w6.heap.size, 0, none⟩ = some (.slice p0 p1 p2) ∧ w'.cell? ⟨w6.heap.size, 1, none⟩ = some (.slice p3 p4 p5)))
  go_wp2
  go_region_held3 (fun w' => w'.cell? ⟨w.heap.size, 0, none⟩ = some (.slice x0 x1 x2) ∧ w'.cell? ⟨w.heap.size, 1, none⟩ = some (.slice x3 x4 x5) ∧ w'.cell? ⟨w6.heap.size, 0, none⟩ = some (.slice p0 p1 p2) ∧ w'.cell? ⟨w6.heap.size, 1, none⟩ = some (.slice p3 p4 p5))
    (exact unhide HSK _ (by first | with_reducible exact q12 | with_reducible exact q11 | with_reducible exact Below.refl _ _ | with_reducible exact (Below.refl _ _).drew))
    (first | (go_at_call 15; refine (unhide HTA _ (unhide S10).bel.drew).mono ?_; rintro r w11 ⟨u11, rfl, hk11, hb11⟩; have q11 : Below w10.heap.size w10 w11 := (Below.refl _ w10).drew.trans hb11) | (go_at_call 17; refine (eqCodeObj_any _ _ _ u11 a w11 ((unhide K10).kept q11 q11.size) hk11).mono ?_; rintro r w12 ⟨rfl, hb12⟩; have q12 : Below w10.heap.size w10 w12 := q11.trans (hb12.mono q11.size)))
  have S12 := hide ((unhide S10).next q12)
  clear hk11 hb11 hb12 q11 q12 S10 A10 X10 HSK
  go_wp2
  go_ret
  exact ⟨rfl, (unhide S12).bel⟩
end Go.Proofs.Ytifcfjjlgehopaa
