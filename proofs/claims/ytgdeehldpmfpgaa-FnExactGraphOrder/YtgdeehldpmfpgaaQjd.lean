/- The walk of the law on GraphOrder: it returns true and turns nothing that was there. Conditions: the nodes can be read. -/
import Derived.Test.YtgdeehldpmfpgaaQig
import Derived.Test.YtgdeehldpmfpgaaQjc
import Derived.Test.YtgdeehldpmfpgaaQh
namespace Go.Proofs.Ytgdeehldpmfpgaa
open Go.RowKit Go.PlainAid

theorem orderG_len (l : List TG) : ∀ (f : Nat) (out : List ByteArray), (orderG l f out).length ≤ out.length + f
  | 0, out => by rw [orderG]; omega
  | f + 1, out => by
    rw [orderG]
    split
    · omega
    · rename_i x _
      have := orderG_len l f (out ++ [x.name])
      simp at this
      omega
theorem orderR_len (l : List TG) : (orderR l).length ≤ 8 := by
  unfold orderR
  split
  · rename_i h
    have hg : GoodG l := by
      by_cases g : GoodG l
      · exact g
      · rw [graphB_no g] at h; cases h
    have := orderG_len l l.length []
    have h8 := hg.1
    simp at this
    omega
  · simp
theorem name_wt {l : List TG} {n : TG} (h : n ∈ l) : n.name.size ≤ wtGns l := by
  unfold wtGns
  induction l with
  | nil => cases h
  | cons x t ih =>
    simp only [List.map_cons, List.sum_cons]
    rcases List.mem_cons.1 h with rfl | h
    · have e : n.wt = n.name.size + (n.uses.length + wtWds n.uses) := rfl
      omega
    · have := ih h; omega
theorem uses_wt (l : List TG) : sm mN l ≤ l.length + wtGns l := by
  unfold sm wtGns
  induction l with
  | nil => simp
  | cons x t ih =>
    simp only [List.map_cons, List.sum_cons, List.length_cons, mN]
    have e : x.wt = x.name.size + (x.uses.length + wtWds x.uses) := rfl
    omega

/-- What the law keeps from the program's answer on: all that was there, the specification's answer, the program's. -/
structure LQ (w : World) (h3 h4 h5 : Nat) (a3 : Option Addr) (v5 : Value) (R ws : List ByteArray) (W : World) : Prop where
  base : Below w.heap.size w W
  rd : IsWds W 0 h3 a3 R
  own : OwnW W h4 h5 v5 ws
  s3 : h3 ≤ h4
  s5 : h5 ≤ W.heap.size
  sb : w.heap.size ≤ h3
theorem LQ.kept {w W W' : World} {h3 h4 h5 : Nat} {a3 : Option Addr} {v5 : Value} {R ws : List ByteArray} (h : LQ w h3 h4 h5 a3 v5 R ws W) (s4 : h4 ≤ h5) (hb : Below W.heap.size W W') : LQ w h3 h4 h5 a3 v5 R ws W' := by
  have := h.s3; have := h.s5; have := hb.size
  exact ⟨h.base.trans (hb.mono h.base.size), h.rd.same (fun b _ h2 => hb.block b (by omega)) (Nat.le_refl _) (Nat.le_refl _), h.own.same (fun b _ h2 => hb.block b (by omega)) (Nat.le_refl _) (Nat.le_refl _), h.s3, by omega, h.sb⟩
theorem LQ.read {w W : World} {h3 h4 h5 : Nat} {a3 : Option Addr} {v5 : Value} {R ws : List ByteArray} (h : LQ w h3 h4 h5 a3 v5 R ws W) (s4 : h4 ≤ h5) : IsWds W 0 W.heap.size a3 R := by
  have := h.s3; have := h.s5
  exact h.rd.same (fun _ _ _ => rfl) (Nat.le_refl _) (by omega)

set_option maxRecDepth 100000 in
set_option maxHeartbeats 8000000 in
theorem fnExactGraphOrder_walk (a : Option Addr) (cap : Nat) (l : List TG) (w : World) (hk : IsGns (IsGn w 0 w.heap.size) w 0 w.heap.size a l) (hl : l.length ≤ maxLen) :
    Calls Try.prog 6 #[.slice a l.length cap] w fun e w' => e = .returned (.bool true) ∧ Below w.heap.size w w' := by
  have HK := hide hk
  have HSZ := hide (szTreeGnS_of 0 (szGraphNode_any 0) a cap l w 1048576 hk hl (by omega) (by omega))
  clear hk
  go_enter Try.func6, Try.ntmps6
  go_wp2_with fail
  refine (unhide HSZ).mono ?_
  rintro r w1 ⟨rfl, hb1⟩
  have HB1 := hide hb1
  clear hb1 HSZ
  by_cases hlt : leftI 1048576 (l.length + wtGns l) < 0
  · generalize leftI 1048576 (l.length + wtGns l) = L at hlt
    go_wp2
    go_ret
    exact ⟨rfl, unhide HB1⟩
  have hwt := wt_of_leftF hlt
  generalize leftI 1048576 (l.length + wtGns l) = L at hlt
  have HTO := hide (fun (W : World) (hb : Below w.heap.size w W) => toTreeGnS_ofZ 0 (toGraphNode_anyZ 0) a cap l W ((unhide HK).kept hb hb.size) hwt)
  have HL := hide hl
  have HNS : Hid (∀ n ∈ l, n.name.size ≤ 1048576) := hide (fun n hn => by have := name_wt hn; omega)
  have HMN : Hid (sm mN l ≤ 1048576) := hide (by have := uses_wt l; omega)
  have HR8 := hide (orderR_len l)
  have HSP := hide (fun (lo : Nat) (a : Option Addr) (cap : Nat) (W : World) (hk : IsGns (IsGn W lo W.heap.size) W lo W.heap.size a l) => GraphOrderS_any lo a cap l W hk (unhide HL))
  have HIM := hide (fun (lo : Nat) (a : Option Addr) (cap : Nat) (W : World) (hk : IsGns (IsGn W lo W.heap.size) W lo W.heap.size a l) => GraphOrderI_any lo a cap l W hk (unhide HL) (unhide HNS))
  obtain ⟨R, hR⟩ : ∃ R, orderR l = R := ⟨_, rfl⟩
  rw [hR] at HSP HIM HR8
  have HEQ := hide (fun (W : World) (lo lo' : Nat) (a a' : Option Addr) (c c' : Nat) (g1 : IsWds W lo W.heap.size a R) (g2 : IsWds W lo' W.heap.size a' R) => eqWds_any lo lo' a a' c c' R W (by have := unhide HR8; unfold maxLen; omega) g1 g2)
  clear hR hwt HK hl HNS
  go_wp2_with fail
  refine (unhide HTO _ (unhide HB1)).mono ?_
  rintro r w2 ⟨a2, c2, rfl, hk2, hb2⟩
  have HB2 := hide ((unhide HB1).trans (hb2.toBelow.mono (unhide HB1).size))
  have HOS := hide (unhide HSP _ a2 c2 w2 hk2)
  clear hk2 hb2 HB1 HSP
  go_wp2_with fail
  refine (unhide HOS).mono ?_
  rintro r w3 ⟨a3, c3, rfl, hr3, hb3⟩
  have HB3 := hide ((unhide HB2).trans (hb3.mono (unhide HB2).size))
  have HR3 : Hid (IsWds w3 0 w3.heap.size a3 R) := hide (hr3.same (fun _ _ _ => rfl) (Nat.zero_le _) (Nat.le_refl _))
  clear hr3 hb3 HB2 HOS
  go_wp2_with fail
  refine (unhide HTO _ (unhide HB3)).mono ?_
  rintro r w4 ⟨a4, c4, rfl, hk4, hb4⟩
  have HB4 := hide ((unhide HB3).trans (hb4.toBelow.mono (unhide HB3).size))
  have HR4 : Hid (IsWds w4 0 w3.heap.size a3 R) := hide ((unhide HR3).same (fun b _ h2 => hb4.block b h2) (Nat.le_refl _) (Nat.le_refl _))
  have HF4 : Hid (Fr w4 w3.heap.size w4.heap.size) := hide (fun b j h1 _ => hb4.fr b j h1)
  have HS34 : Hid (w3.heap.size ≤ w4.heap.size) := hide hb4.size
  have HSW3 : Hid (w.heap.size ≤ w3.heap.size) := hide (unhide HB3).size
  have HOI := hide (unhide HIM _ a4 c4 w4 hk4)
  have HK4 := hide hk4
  clear hk4 hb4 HB3 HR3
  go_wp2_with fail
  refine (unhide HOI).mono ?_
  rintro r w5 ⟨v5, rfl, ho5, hb5⟩
  have HK5 : Hid (IsGns (IsGn w5 w3.heap.size w4.heap.size) w5 w3.heap.size w4.heap.size a4 l) := hide ((unhide HK4).kept hb5 (Nat.le_refl _))
  have HF5 : Hid (Fr w5 w3.heap.size w4.heap.size) := hide (fun b j h1 h2 => (hb5.frozen (p := ⟨b, j, none⟩) h2).trans (unhide HF4 b j h1 h2))
  have HS45 : Hid (w4.heap.size ≤ w5.heap.size) := hide hb5.size
  have HQ5 : Hid (LQ w w3.heap.size w4.heap.size w5.heap.size a3 v5 R R w5) := hide ⟨(unhide HB4).trans (hb5.mono (unhide HB4).size), (unhide HR4).same (fun b _ h2 => hb5.block b (by have := unhide HS34; omega)) (Nat.le_refl _) (Nat.le_refl _), ho5, unhide HS34, Nat.le_refl _, unhide HSW3⟩
  obtain ⟨b5, c5, rfl, -⟩ := ho5.wds
  clear ho5 hb5 HB4 HOI HK4 HR4 HF4
  have HE5 := hide (fun (W : World) (hq : LQ w w3.heap.size w4.heap.size w5.heap.size a3 (.slice b5 R.length c5) R R W) => by
    obtain ⟨a', c', hv', hI⟩ := hq.own.wds
    cases hv'
    exact unhide HEQ W w4.heap.size 0 b5 a3 c5 c3 (hI.same (fun _ _ _ => rfl) (Nat.le_refl _) hq.s5) (hq.read (unhide HS45)))
  go_wp2_with fail
  refine (unhide HE5 _ (unhide HQ5)).mono ?_
  rintro r w6 ⟨rfl, hb6⟩
  have HQ6 := hide ((unhide HQ5).kept (unhide HS45) hb6)
  have HK6 : Hid (IsGns (IsGn w6 w3.heap.size w4.heap.size) w6 w3.heap.size w4.heap.size a4 l) := hide ((unhide HK5).kept (hb6.mono (unhide HS45)) (Nat.le_refl _))
  have HF6 : Hid (Fr w6 w3.heap.size w4.heap.size) := hide (fun b j h1 h2 => (hb6.frozen (p := ⟨b, j, none⟩) (Nat.lt_of_lt_of_le h2 (unhide HS45))).trans (unhide HF5 b j h1 h2))
  have HS46 : Hid (w4.heap.size ≤ w6.heap.size) := hide (Nat.le_trans (unhide HS45) hb6.size)
  clear hb6 HQ5 HK5 HF5
  go_wp2_with fail
  refine (unhide HTO _ (unhide HQ6).base).mono ?_
  rintro r w7 ⟨a7, c7, rfl, hk7, hb7⟩
  have HQ7 := hide ((unhide HQ6).kept (unhide HS45) hb7.toBelow)
  have hk47 : IsGns (IsGn w7 w3.heap.size w4.heap.size) w7 w3.heap.size w4.heap.size a4 l := (unhide HK6).kept (hb7.toBelow.mono (unhide HS46)) (Nat.le_refl _)
  have HF7 : Hid (Fr w7 w3.heap.size w4.heap.size) := hide (fun b j h1 h2 => (hb7.toBelow.frozen (p := ⟨b, j, none⟩) (Nat.lt_of_lt_of_le h2 (unhide HS46))).trans (unhide HF6 b j h1 h2))
  have HS47 : Hid (w4.heap.size ≤ w7.heap.size) := hide (Nat.le_trans (unhide HS46) hb7.size)
  have HEN := hide (eqTreeGnS_of _ _ (eqGraphNode_any _ _) a4 a7 c4 c7 l w7 (unhide HL) (hk47.mono (fun v e he => IsGn.same (fun _ _ _ => rfl) (Nat.le_refl _) (unhide HS47) v e he) (fun _ _ _ => rfl) (Nat.le_refl _) (unhide HS47)) hk7)
  have HK7 := hide hk47
  clear hk7 hb7 hk47 HQ6 HK6 HF6 HS46
  go_wp2_with fail
  refine (unhide HEN).mono ?_
  rintro r w8 ⟨rfl, hb8⟩
  have HQ8 := hide ((unhide HQ7).kept (unhide HS45) hb8)
  have HK8 : Hid (IsGns (IsGn w8 w3.heap.size w4.heap.size) w8 w3.heap.size w4.heap.size a4 l) := hide ((unhide HK7).kept (hb8.mono (unhide HS47)) (Nat.le_refl _))
  have HF8 : Hid (Fr w8 w3.heap.size w4.heap.size) := hide (fun b j h1 h2 => (hb8.frozen (p := ⟨b, j, none⟩) (Nat.lt_of_lt_of_le h2 (unhide HS47))).trans (unhide HF7 b j h1 h2))
  have HS48 : Hid (w4.heap.size ≤ w8.heap.size) := hide (Nat.le_trans (unhide HS47) hb8.size)
  clear hb8 HQ7 HK7 HF7 HS47 HEN
  have HMK := hide (markNodes_any w3.heap.size w4.heap.size a4 c4 l 1 w8 ((unhide HK8).mono (fun v e he => ShN.of he) (fun _ _ _ => rfl) (Nat.le_refl _) (Nat.le_refl _)) (unhide HL) (unhide HF8) (unhide HS48) (unhide HS34) (by omega) (by have := unhide HMN; omega))
  go_wp2_with fail
  refine (unhide HMK).mono ?_
  rintro r w9 ⟨k9, rfl, hk9, hk9', hm9⟩
  have HQ9 : Hid (LQ w w3.heap.size w4.heap.size w5.heap.size a3 (.slice b5 R.length c5) R R w9) := hide (by
    have hq := unhide HQ8
    have h34 := unhide HS34
    have h48 := unhide HS48
    have hs5 := hq.s5
    exact ⟨hq.base.trans (hm9.low.mono hq.sb), hq.rd.same (fun b _ h2 => hm9.low.block b h2) (Nat.le_refl _) (Nat.le_refl _), hq.own.same (fun b h1 h2 => hm9.high b h1 (by omega)) (Nat.le_refl _) (Nat.le_refl _), hq.s3, Nat.le_trans hq.s5 hm9.size, hq.sb⟩)
  have hk9n : ¬ ((k9 : Nat) : Int) < 0 := by omega
  clear hm9 HQ8 HK8 HF8 HS48 HMK hk9 hk9'
  go_wp2_with fail
  refine (unhide HE5 _ (unhide HQ9)).mono ?_
  rintro r wA ⟨rfl, hbA⟩
  have HQA := hide ((unhide HQ9).kept (unhide HS45) hbA)
  clear hbA HQ9
  go_wp2_with fail
  refine (markWdS_at w4.heap.size w5.heap.size _ R 1 wA (unhide HQA).own (unhide HQA).s5 (unhide HS45) (by have := unhide HR8; omega) (by omega) (by omega)).mono ?_
  rintro r wB ⟨rfl, hoB, hbB⟩
  have HQB : Hid (LQ w w3.heap.size w4.heap.size w5.heap.size a3 (.slice b5 R.length c5) R (marksW 1 R.length) wB) := hide (by
    have hq := unhide HQA
    have h34 := unhide HS34
    exact ⟨hq.base.trans (hbB.mono (by have := hq.sb; omega)), hq.rd.same (fun b _ h2 => hbB.block b (by omega)) (Nat.le_refl _) (Nat.le_refl _), hoB, hq.s3, Nat.le_trans hq.s5 hbB.size, hq.sb⟩)
  obtain ⟨Q, hQ⟩ : ∃ Q, 1 + R.length = Q := ⟨_, rfl⟩
  have HH := hide (fun (W : World) (hq : LQ w w3.heap.size w4.heap.size w5.heap.size a3 (.slice b5 R.length c5) R (marksW 1 R.length) W) => heldWdS_at w4.heap.size w5.heap.size (.slice b5 R.length c5) 1 R.length W hq.own hq.s5 (by have := unhide HR8; omega) (by omega) (by omega))
  rw [hQ] at HH ⊢
  have hq2 : (((Q : Nat) : Int) != ((Q : Nat) : Int)) = false := by simp
  have hq3 : ¬ ((Q : Nat) : Int) < 0 := by omega
  clear hoB hbB HQA hQ
  go_wp2_with fail
  refine (unhide HH _ (unhide HQB)).mono ?_
  rintro r wC ⟨rfl, hbC⟩
  have HQC := hide ((unhide HQB).kept (unhide HS45) hbC)
  clear hbC HQB
  go_wp2_with fail
  refine (unhide HTO _ (unhide HQC).base).mono ?_
  rintro r wD ⟨aD, cD, rfl, hkD, hbD⟩
  have HQD := hide ((unhide HQC).kept (unhide HS45) hbD.toBelow)
  have HOD := hide (unhide HIM _ aD cD wD hkD)
  clear hkD hbD HQC
  go_wp2_with fail
  refine (unhide HOD).mono ?_
  rintro r wE ⟨vE, rfl, hoE, hbE⟩
  have HQE := hide ((unhide HQD).kept (unhide HS45) hbE)
  obtain ⟨aE, cE, rfl, hIE⟩ := hoE.wds
  have HIE := hide hIE
  clear hoE hbE hIE HQD HOD
  go_wp2_with fail
  refine (unhide HEQ _ _ _ _ _ _ _ (unhide HIE) ((unhide HQE).read (unhide HS45))).mono ?_
  rintro r wF ⟨rfl, hbF⟩
  have HQF := hide ((unhide HQE).kept (unhide HS45) hbF)
  clear hbF HQE HIE
  go_wp2_with fail
  refine (unhide HH _ (unhide HQF)).mono ?_
  rintro r wG ⟨rfl, hbG⟩
  have HQG := hide ((unhide HQF).kept (unhide HS45) hbG)
  clear hbG HQF
  go_wp2
  go_ret
  exact ⟨rfl, (unhide HQG).base⟩
end Go.Proofs.Ytgdeehldpmfpgaa
