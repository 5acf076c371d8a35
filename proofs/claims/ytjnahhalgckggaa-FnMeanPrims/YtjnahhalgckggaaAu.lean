/- The walk of the law on MeanPrim: it returns true and turns nothing that was there. Conditions: the row can be read. -/
import Derived.Test.YtjnahhalgckggaaAt
namespace Go.Proofs.Ytjnahhalgckggaa
open Go.RowKit Go.PlainAid

theorem le_sum_map {α : Type} (f : α → Nat) : ∀ (l : List α) (x : α), x ∈ l → f x ≤ (l.map f).sum
  | y :: t, x, h => by
    rw [List.map_cons, List.sum_cons]
    rcases List.mem_cons.1 h with rfl | h
    · omega
    · have := le_sum_map f t x h
      omega
theorem mvs_of {w : World} {lo n : Nat} {a : Option Addr} {xs : List MV} (h : IsMvs (IsMv w lo n) w lo n a xs) (hn : n ≤ w.heap.size) (hw : xs.length + wtMvs xs ≤ 1048576) : Mvs w lo a xs := by
  refine ⟨h.kept (Below.refl _ _) hn, fun x hx => ?_⟩
  have : x.wt ≤ wtMvs xs := le_sum_map MV.wt xs x hx
  unfold MV.wt at this
  omega
theorem mv_of {w : World} {lo n : Nat} {kd nu : Int} {v : Value} {rr : List Int} (h : OwnI w lo n v rr) (hn : n ≤ w.heap.size) (hl : rr.length ≤ 1048576) : IsMv w lo w.heap.size (.agg #[.int .i64 kd, .int .i64 nu, v]) ⟨kd, nu, rr⟩ := by
  obtain ⟨a, cap, rfl, hi⟩ := h.ints
  exact ⟨a, cap, rfl, by unfold maxLen; exact Nat.le_trans hl (by decide), hi.kept (Below.refl _ _) hn⟩
theorem Blk.of_block {w w' : World} {B : Nat} {C : List Value} (h : Blk w B C) (hb : w'.heap[B]? = w.heap[B]?) : Blk w' B C :=
  ⟨fun i => (World.cell?_of_block (w := w) (a := ⟨B, i, none⟩) hb).trans (h.1 i), fun i => (World.frozen?_of_block (w := w) (a := ⟨B, i, none⟩) hb).trans (h.2 i)⟩
/-- What the law keeps: the specification's answer and the program's, each in a variable, their rows apart. -/
structure IV (w : World) (n2 n3 n4 n5 : Nat) (kd nu : Int) (v3 v5 : Value) (rr r5 : List Int) (wi : World) : Prop where
  bel : Below w.heap.size w wi
  le : w.heap.size ≤ n2 ∧ n2 ≤ n3 ∧ n3 + 1 ≤ n4 ∧ n4 ≤ n5 ∧ n5 < wi.heap.size
  bA : Blk wi n3 [.int .i64 kd, .int .i64 nu, v3]
  bB : Blk wi n5 [.int .i64 kd, .int .i64 nu, v5]
  o3 : OwnI wi n2 n3 v3 rr
  o5 : OwnI wi n4 n5 v5 r5
section
variable {w wi wj : World} {n2 n3 n4 n5 : Nat} {kd nu : Int} {v3 v5 : Value} {rr r5 : List Int}
theorem IV.step (h : IV w n2 n3 n4 n5 kd nu v3 v5 rr r5 wi) (hb : Below wi.heap.size wi wj) : IV w n2 n3 n4 n5 kd nu v3 v5 rr r5 wj := by
  have := h.le
  have := hb.size
  exact ⟨h.bel.trans (hb.mono h.bel.size), by omega, h.bA.below hb (by omega), h.bB.below hb (by omega), h.o3.kept (hb.mono (by omega)) (Nat.le_refl _), h.o5.kept (hb.mono (by omega)) (Nat.le_refl _)⟩
theorem IV.mark (h : IV w n2 n3 n4 n5 kd nu v3 v5 rr r5 wi) (hm : Mk (n3 + 1) n4 wi wj) : IV w n2 n3 n4 n5 kd nu v3 v5 rr r5 wj := by
  have hle := h.le
  have := hm.size
  refine ⟨h.bel.trans (hm.low.mono (by omega)), by omega, h.bA.below hm.low (by omega), h.bB.of_block (hm.high n5 (by omega) (by omega)), h.o3.kept (hm.low.mono (by omega)) (Nat.le_refl _), h.o5.same (fun b h1 h2 => ?_) (Nat.le_refl _) (Nat.le_refl _)⟩
  have hb := hm.high b h1 (by omega)
  exact ⟨fun j => World.cell?_of_block (w := wi) (a := ⟨b, j, none⟩) hb, fun j => World.frozen?_of_block (w := wi) (a := ⟨b, j, none⟩) hb⟩
theorem IV.mark5 {r' : List Int} (h : IV w n2 n3 n4 n5 kd nu v3 v5 rr r5 wi) (ho : OwnI wj n4 n5 v5 r') (hl : Below n4 wi wj) (hs : wi.heap.size ≤ wj.heap.size) (hh : ∀ b, n5 ≤ b → b < wi.heap.size → wj.heap[b]? = wi.heap[b]?) : IV w n2 n3 n4 n5 kd nu v3 v5 rr r' wj := by
  have hle := h.le
  exact ⟨h.bel.trans (hl.mono (by omega)), by omega, h.bA.below hl (by omega), h.bB.of_block (hh n5 (Nat.le_refl _) (by omega)), h.o3.kept (hl.mono (by omega)) (Nat.le_refl _), ho⟩
theorem IV.eq (h : IV w n2 n3 n4 n5 kd nu v3 v5 rr rr wi) (hl : rr.length ≤ 1048576) : Calls Try.prog 11 #[.agg #[.int .i64 kd, .int .i64 nu, v5], .agg #[.int .i64 kd, .int .i64 nu, v3]] wi fun r w' => r = .returned (.bool true) ∧ Below wi.heap.size wi w' := by
  have hle := h.le
  exact eqMeanVal_any n4 n2 _ _ ⟨kd, nu, rr⟩ wi (mv_of h.o5 (by omega) hl) (mv_of h.o3 (by omega) hl)
theorem IV.facts {a3 a5 : Option Addr} {l c3 c5 : Nat} (h : IV w n2 n3 n4 n5 kd nu (.slice a3 l c3) (.slice a5 l c5) rr r5 wi) : (wi.cell? ⟨n3, 0, none⟩ = some (.int .i64 kd) ∧ wi.cell? ⟨n3, 1, none⟩ = some (.int .i64 nu) ∧ wi.cell? ⟨n3, 2, none⟩ = some (.slice a3 l c3)) ∧ wi.cell? ⟨n5, 0, none⟩ = some (.int .i64 kd) ∧ wi.cell? ⟨n5, 1, none⟩ = some (.int .i64 nu) ∧ wi.cell? ⟨n5, 2, none⟩ = some (.slice a5 l c5) :=
  ⟨⟨h.bA.1 0, h.bA.1 1, h.bA.1 2⟩, h.bB.1 0, h.bB.1 1, h.bB.1 2⟩
end

set_option maxRecDepth 100000 in
set_option maxHeartbeats 16000000 in
theorem fnExactMeanPrim_walkL (s : ByteArray) (lo : Nat) (a : Option Addr) (cap : Nat) (xs : List MV) (w : World) (w0 : s.size ≤ maxLen) (hl : xs.length ≤ maxLen) (hk : IsMvs (IsMv w lo w.heap.size) w lo w.heap.size a xs) :
    Calls Try.prog 4 #[.string s, .slice a xs.length cap] w fun e w' => e = .returned (.bool true) ∧ Below w.heap.size w w' := by
  unfold maxLen at w0
  by_cases h : 1048576 < s.size
  · go_enter Try.func4, Try.ntmps4
    go_wp2
    go_ret
    exact ⟨rfl, Below.refl _ _⟩
  have HSZ := hide (szMeanValS_of lo (szMeanVal_any lo) a cap xs w 1048576 hk hl (by omega) (by omega))
  by_cases hwt : xs.length + wtMvs xs ≤ 1048576
  · have HW := hide hwt
    obtain ⟨K, hK⟩ : ∃ K, 1048576 - (xs.length + wtMvs xs) = K := ⟨_, rfl⟩
    have hK2 : K ≤ 1048576 := by omega
    rw [left_yes (by omega), show (1048576 : Int) - ((xs.length + wtMvs xs : Nat) : Int) = (K : Int) by omega] at HSZ
    have HTO := hide (fun (W : World) (hb : Below w.heap.size w W) => toMeanValS_ofZ lo (toMeanVal_anyZ lo) a cap xs W (hk.kept hb hb.size) hwt)
    have hlx : xs.length ≤ 1048576 := by omega
    have hs20 : s.size ≤ 1048576 := by omega
    have hrow := meanR_row (primN s.toList) xs (mvs_of hk (Nat.le_refl _) hwt).2
    have HSP := hide (fun (W : World) (lo' : Nat) (a' : Option Addr) (c' : Nat) (hm : Mvs W lo' a' xs) => MeanPrimS_any s lo' a' c' xs W hm hlx)
    have HIP := hide (fun (W : World) (lo' : Nat) (a' : Option Addr) (c' : Nat) (hm : Mvs W lo' a' xs) => MeanPrimI_any s hs20 lo' a' c' xs W hm hlx)
    obtain ⟨R, hR⟩ : ∃ R, meanR (primN s.toList) xs = R := ⟨_, rfl⟩
    rw [hR] at HSP HIP hrow
    obtain ⟨⟨kd, nu, rr⟩, co⟩ := R
    dsimp only at hrow
    have HROW := hide hrow
    have HSM : Hid (1 + sm mV xs ≤ 100000000000) := hide (by
      have : sm mV xs = 2 * xs.length + wtMvs xs := by
        clear HSZ HTO HSP HIP HROW hrow hR hlx hK hK2 HW hwt hk hl h
        unfold sm wtMvs
        induction xs with
        | nil => rfl
        | cons x t ih => rw [List.map_cons, List.map_cons, List.sum_cons, List.sum_cons, ih]; simp only [mV, MV.wt, List.length_cons]; omega
      omega)
    clear hk hK hwt hR hrow
    have hqc : (co != co) = false := by simp
    go_enter Try.func4, Try.ntmps4
    go_wp2_with fail
    refine (unhide HSZ).mono ?_
    rintro r w1 ⟨rfl, hb1⟩
    have HB1 := hide hb1
    clear hb1 HSZ
    go_wp2_with fail
    refine (unhide HTO w1 (unhide HB1)).mono ?_
    rintro r w2 ⟨a2, c2, rfl, hi2, hb2⟩
    have HI2 := hide (mvs_of hi2 (Nat.le_refl _) (unhide HW))
    have HB2 := hide ((unhide HB1).trans (hb2.toBelow.mono (unhide HB1).size))
    clear hi2 hb2 HB1
    go_wp2_with fail
    refine (unhide HSP w2 _ a2 c2 (unhide HI2)).mono ?_
    rintro r w3 ⟨v3, rfl, ho3, hb3⟩
    dsimp only at ho3
    obtain ⟨a3, c3, rfl⟩ := ho3.form
    have HO3 := hide ho3
    have HB3 := hide ((unhide HB2).trans (hb3.mono (unhide HB2).size))
    have HS3 := hide hb3.size
    clear ho3 hb3 HSP HI2
    dsimp only
    obtain ⟨LL, hLL⟩ : ∃ t, rr.length = t := ⟨_, rfl⟩
    have HLL := hide hLL
    rw [hLL] at HO3 ⊢
    clear hLL
    go_wp2_with fail
    refine (unhide HTO _ ((unhide HB3).alloc (unhide HB3).size _)).mono ?_
    rintro r w4 ⟨a4, c4, rfl, hi4, hb4⟩
    rw [alloc_size] at hi4
    have HI4 := hide hi4
    have HFR : Hid (Fr w4 (w3.heap.size + 1) w4.heap.size) := hide (fun b j h1 h2 => hb4.fr b j (by rw [alloc_size]; exact h1))
    have HB4 := hide (((unhide HB3).alloc (unhide HB3).size (.cells #[.int .i64 kd, .int .i64 nu, .slice a3 LL c3] 28)).trans (hb4.toBelow.mono (by rw [alloc_size]; have := (unhide HB3).size; omega)))
    have HA4 := hide ((Blk.new w3 [.int .i64 kd, .int .i64 nu, .slice a3 LL c3] 28).below hb4.toBelow (by simp))
    have HO34 := hide (((unhide HO3).kept (below_new w3 _) (Nat.le_refl _)).kept (hb4.toBelow.mono (by simp)) (Nat.le_refl _))
    have HS4 : Hid (w3.heap.size + 1 ≤ w4.heap.size) := hide (by have := hb4.size; rw [alloc_size] at this; exact this)
    clear hi4 hb4 HO3
    go_wp2_with fail
    refine (unhide HIP w4 _ a4 c4 (mvs_of (unhide HI4) (Nat.le_refl _) (unhide HW))).mono ?_
    rintro r w5 ⟨v5, rfl, ho5, hb5⟩
    dsimp only at ho5
    obtain ⟨a5, c5, rfl⟩ := ho5.form
    rw [unhide HLL] at ho5 ⊢
    dsimp only
    have V5 : Hid (IV w w2.heap.size w3.heap.size w4.heap.size w5.heap.size kd nu (.slice a3 LL c3) (.slice a5 LL c5) rr rr (w5.alloc (.cells #[.int .i64 kd, .int .i64 nu, .slice a5 LL c5] 28))) := hide (by
      have hb5' : Below w4.heap.size w4 (w5.alloc (.cells #[.int .i64 kd, .int .i64 nu, .slice a5 LL c5] 28)) := hb5.alloc hb5.size _
      have h4 := unhide HS4
      have h3 := unhide HS3
      have h2 := (unhide HB2).size
      have h5 := hb5.size
      refine ⟨(unhide HB4).trans (hb5'.mono (unhide HB4).size), ⟨h2, h3, h4, h5, by simp⟩, (unhide HA4).below hb5' (by omega), Blk.new w5 [.int .i64 kd, .int .i64 nu, .slice a5 LL c5] 28, (unhide HO34).kept (hb5'.mono (by omega)) (Nat.le_refl _), ho5.kept (below_new w5 _) (Nat.le_refl _)⟩)
    have hN35 : w3.heap.size < w5.heap.size := by have := unhide HS4; have := hb5.size; omega
    have C0 : w5.cell? ⟨w3.heap.size, 0, none⟩ = some (.int .i64 kd) := (hb5.cell (p := ⟨w3.heap.size, 0, none⟩) (unhide HS4)).trans ((unhide HA4).1 0)
    have C1 : w5.cell? ⟨w3.heap.size, 1, none⟩ = some (.int .i64 nu) := (hb5.cell (p := ⟨w3.heap.size, 1, none⟩) (unhide HS4)).trans ((unhide HA4).1 1)
    have C2 : w5.cell? ⟨w3.heap.size, 2, none⟩ = some (.slice a3 LL c3) := (hb5.cell (p := ⟨w3.heap.size, 2, none⟩) (unhide HS4)).trans ((unhide HA4).1 2)
    have HB45 : Hid (Below w4.heap.size w4 (w5.alloc (.cells #[.int .i64 kd, .int .i64 nu, .slice a5 LL c5] 28))) := hide (hb5.alloc hb5.size _)
    clear ho5 hb5 HA4 HO34 HB3 HB2
    go_wp2_with fail
    refine ((unhide V5).eq (unhide HROW)).mono ?_
    rintro r w6 ⟨rfl, hb6⟩
    have V6 := hide ((unhide V5).step hb6)
    have HB46 := hide ((unhide HB45).trans (hb6.mono (unhide HB45).size))
    clear hb6 V5 HB45 C0 C1 C2 hN35
    go_wp2_with fail
    refine (unhide HTO w6 (unhide V6).bel).mono ?_
    rintro r w7 ⟨a7, c7, rfl, hi7, hb7⟩
    have V7 := hide ((unhide V6).step hb7.toBelow)
    have HB47 := hide ((unhide HB46).trans (hb7.toBelow.mono (unhide HB46).size))
    have HEQ := hide (eqMeanValS_of _ _ (eqMeanVal_any _ _) a4 a7 c4 c7 xs w7 (by unfold maxLen; exact Nat.le_trans hlx (by decide)) ((unhide HI4).kept (unhide HB47) (unhide HB47).size) (hi7.kept (Below.refl _ _) (Nat.le_refl _)))
    clear hi7 hb7 V6 HB46
    go_wp2_with fail
    refine (unhide HEQ).mono ?_
    rintro r w8 ⟨rfl, hb8⟩
    have V8 := hide ((unhide V7).step hb8)
    have HB48 := hide ((unhide HB47).trans (hb8.mono (unhide HB47).size))
    clear hb8 V7 HB47 HEQ
    have HMK := hide (markMvs_any (w3.heap.size + 1) w4.heap.size a4 c4 xs 1 w8 (IsMvs.mono ((unhide HI4).kept (unhide HB48) (Nat.le_refl _)) (fun v e he => ShMv.of he) (fun _ _ _ => rfl) (Nat.le_refl _) (Nat.le_refl _)) (by unfold maxLen; exact Nat.le_trans hlx (by decide)) (fun b j h1 h2 => ((unhide HB48).frozen (p := ⟨b, j, none⟩) h2).trans (unhide HFR b j h1 h2)) (unhide HB48).size (unhide HS4) (by omega) (unhide HSM))
    unfold MkCalls at HMK
    go_wp2_with fail
    refine (unhide HMK).mono ?_
    rintro r w9 ⟨kq, rfl, hq1, hq2, hm9⟩
    have V9 := hide ((unhide V8).mark hm9)
    have hkq : kq ≤ 100000000000 := by have := unhide HSM; omega
    clear hm9 V8 HB48 HMK hq2
    obtain ⟨⟨A0, A1, A2⟩, B0, B1, B2⟩ := (unhide V9).facts
    go_wp2_with fail
    refine ((unhide V9).eq (unhide HROW)).mono ?_
    rintro r w10 ⟨rfl, hb10⟩
    have V10 := hide ((unhide V9).step hb10)
    clear A0 A1 A2 B0 B1 B2
    clear hb10 V9
    obtain ⟨⟨A0, A1, A2⟩, B0, B1, B2⟩ := (unhide V10).facts
    have HMV := hide (markMeanVal_any w4.heap.size w5.heap.size kd nu (.slice a5 LL c5) rr 1 w10 (unhide V10).o5 (by have := (unhide V10).le; omega) (by have := (unhide V10).le; omega) (Nat.le_trans (unhide HROW) (by decide)) (by omega))
    rw [unhide HLL] at HMV
    have hLL2 : LL ≤ 1048576 := by rw [← unhide HLL]; exact unhide HROW
    have hqm : (((1 + LL : Nat) : Int) != ((1 + LL : Nat) : Int)) = false := by simp
    go_wp2_with fail
    refine (unhide HMV).mono ?_
    rintro r w11 ⟨rfl, ho11, hb11, hs11, hh11⟩
    have V11 := hide ((unhide V10).mark5 ho11 hb11 hs11 hh11)
    clear A0 A1 A2 B0 B1 B2
    clear ho11 hb11 hs11 hh11 V10 HMV
    obtain ⟨⟨A0, A1, A2⟩, B0, B1, B2⟩ := (unhide V11).facts
    go_wp2_with fail
    refine (heldMeanVal_any w4.heap.size w5.heap.size kd nu (.slice a5 LL c5) 1 LL w11 (unhide V11).o5 (by have := (unhide V11).le; omega) (by omega) (by omega)).mono ?_
    rintro r w12 ⟨rfl, hb12⟩
    have V12 := hide ((unhide V11).step hb12)
    clear A0 A1 A2 B0 B1 B2
    clear hb12 V11
    go_wp2_with fail
    refine (unhide HTO w12 (unhide V12).bel).mono ?_
    rintro r w13 ⟨a13, c13, rfl, hi13, hb13⟩
    have V13 := hide ((unhide V12).step hb13.toBelow)
    have HI13 := hide (mvs_of hi13 (Nat.le_refl _) (unhide HW))
    clear hi13 hb13 V12
    go_wp2_with fail
    refine (unhide HIP w13 _ a13 c13 (unhide HI13)).mono ?_
    rintro r w14 ⟨v14, rfl, ho14, hb14⟩
    dsimp only at ho14
    obtain ⟨a14, c14, rfl⟩ := ho14.form
    rw [unhide HLL] at ho14 ⊢
    dsimp only
    have V14 := hide ((unhide V13).step hb14)
    have HO14 := hide ho14
    have V15 := hide ((unhide V14).step (below_new w14 (.cells #[.int .i64 kd, .int .i64 nu, .slice a14 LL c14] 28)))
    have HE15 : Hid (Calls Try.prog 11 #[.agg #[.int .i64 kd, .int .i64 nu, .slice a14 LL c14], .agg #[.int .i64 kd, .int .i64 nu, .slice a3 LL c3]] (w14.alloc (.cells #[.int .i64 kd, .int .i64 nu, .slice a14 LL c14] 28)) fun r w' => r = .returned (.bool true) ∧ Below (w14.alloc (.cells #[.int .i64 kd, .int .i64 nu, .slice a14 LL c14] 28)).heap.size (w14.alloc (.cells #[.int .i64 kd, .int .i64 nu, .slice a14 LL c14] 28)) w') := hide (by
      have hle := (unhide V15).le
      exact eqMeanVal_any w13.heap.size w2.heap.size _ _ ⟨kd, nu, rr⟩ _ (mv_of (ho14.kept (below_new w14 _) (Nat.le_refl _)) (by simp) (unhide HROW)) (mv_of (unhide V15).o3 (by omega) (unhide HROW)))
    have hN14 : w3.heap.size < w14.heap.size := by have := (unhide V14).le; omega
    obtain ⟨⟨A0, A1, A2⟩, B0, B1, B2⟩ := (unhide V14).facts
    clear ho14 hb14 V13 V14
    go_wp2_with fail
    refine (unhide HE15).mono ?_
    rintro r w16 ⟨rfl, hb16⟩
    have V16 := hide ((unhide V15).step hb16)
    clear A0 A1 A2 B0 B1 B2
    clear hb16 V15 HE15 hN14
    obtain ⟨⟨A0, A1, A2⟩, B0, B1, B2⟩ := (unhide V16).facts
    go_wp2_with fail
    refine (heldMeanVal_any w4.heap.size w5.heap.size kd nu (.slice a5 LL c5) 1 LL w16 (unhide V16).o5 (by have := (unhide V16).le; omega) (by omega) (by omega)).mono ?_
    rintro r w17 ⟨rfl, hb17⟩
    have HBF := hide ((unhide V16).bel.trans (hb17.mono (unhide V16).bel.size))
    clear A0 A1 A2 B0 B1 B2
    clear hb17 V16
    go_wp2
    go_ret
    exact ⟨rfl, unhide HBF⟩
  · rw [left_no (by omega)] at HSZ
    clear hk
    go_enter Try.func4, Try.ntmps4
    go_wp2_with fail
    refine (unhide HSZ).mono ?_
    rintro r w1 ⟨rfl, hb1⟩
    have HB := hide hb1
    clear hb1 HSZ
    go_wp2
    go_ret
    exact ⟨rfl, unhide HB⟩
theorem fnExactMeanPrim_walk (a0 : ByteArray) (a : Option Addr) (cap : Nat) (l : List MV) (w : World) (w0 : a0.size ≤ maxLen) (w1 : IsMvs (IsMv w 0 w.heap.size) w 0 w.heap.size a l) (z1 : l.length ≤ maxLen) :
    Calls Try.prog 4 #[.string a0, .slice a l.length cap] w fun e w' => e = .returned (.bool true) ∧ Below w.heap.size w w' := fnExactMeanPrim_walkL a0 0 a cap l w w0 z1 w1
end Go.Proofs.Ytjnahhalgckggaa
