/- The walk of the law on TypePrim: it returns true and turns nothing that was there. No conditions. -/
import Derived.Test.YtkiaidjkhhljhaaHd
namespace Go.Proofs.Ytkiaidjkhhljhaa
open Go.RowKit Go.PlainAid

set_option maxRecDepth 100000 in
set_option maxHeartbeats 4000000 in
theorem fnExactTypePrim_walk (a0 : ByteArray) (w : World) (w0 : a0.size ≤ maxLen) :
    Calls Try.prog 3 #[.string a0] w fun e w' => e = .returned (.bool true) ∧ Below w.heap.size w w' := by
  unfold maxLen at w0
  by_cases h : 1048576 < a0.size
  · go_enter Try.func3, Try.ntmps3
    go_wp2
    go_ret
    exact ⟨rfl, Below.refl _ _⟩
  · have hlen := tpArgs_len (primN a0.toList)
    have HS := hide (fun W => TypePrimS_any a0 W)
    have HI := hide (fun W => TypePrimI_any a0 W)
    obtain ⟨n, hn⟩ : ∃ n, primN a0.toList = n := ⟨_, rfl⟩
    rw [hn] at HS HI hlen
    clear hn
    have HL := hide hlen
    clear hlen
    unfold TPost at HS HI
    obtain ⟨zs, hz⟩ : ∃ zs, tpArgs n = zs := ⟨_, rfl⟩
    obtain ⟨t, ht⟩ : ∃ t, tpRes n = t := ⟨_, rfl⟩
    rw [hz] at HS HI HL
    rw [ht] at HS HI
    clear hz ht
    have hq : (t != t) = false := by simp
    go_enter Try.func3, Try.ntmps3
    go_wp2_with fail
    refine (unhide HS _).mono ?_
    rintro e w1 ⟨v1, rfl, ho1, hb1⟩
    have HO1 := hide ho1
    have HB1 := hide hb1
    have HS1 := hide hb1.size
    clear ho1 hb1
    have HE : Hid (∀ (lo : Nat) (v : Value) (W : World), OwnI W lo W.heap.size v zs → OwnI W w.heap.size w1.heap.size v1 zs → w1.heap.size ≤ W.heap.size → Calls Try.prog 7 #[v, v1] W fun e w' => e = .returned (.bool true) ∧ Below W.heap.size W w') := hide (fun lo v W h2 h1 hs => by
      obtain ⟨a1, c1, rfl, i1⟩ := h1.ints
      obtain ⟨a2, c2, rfl, i2⟩ := h2.ints
      exact eqIntS_any _ _ a2 a1 c2 c1 zs W (by have := unhide HL; unfold maxLen; omega) i2 (i1.kept (Below.refl _ _) hs))
    go_wp2_with fail
    refine (unhide HI _).mono ?_
    rintro e w2 ⟨v2, rfl, ho2, hb2⟩
    have HB2 := hide ((unhide HB1).trans (hb2.mono (unhide HB1).size))
    have HO2 := hide ho2
    have HV2 := hide ((unhide HO1).kept hb2 (Nat.le_refl _))
    have HS2 := hide hb2.size
    clear ho2 hb2 HO1 HB1
    go_wp2_with fail
    refine (unhide HE _ v2 _ (unhide HO2) (unhide HV2) (unhide HS2)).mono ?_
    rintro e w3 ⟨rfl, hb3⟩
    have HB3 := hide ((unhide HB2).trans (hb3.mono (unhide HB2).size))
    have HV3 := hide ((unhide HV2).kept (hb3.mono (unhide HS2)) (Nat.le_refl _))
    have HO3 := hide ((unhide HO2).kept hb3 hb3.size)
    have HS3 := hide (Nat.le_trans (unhide HS2) hb3.size)
    clear hb3 HB2 HV2 HO2 HS2
    go_wp2_with fail
    refine (markIntS_any _ v2 zs 1 w3 (unhide HO3) (by have := unhide HL; omega) (by omega)).mono ?_
    rintro e w4 ⟨rfl, ho4, hb4, hs4⟩
    rw [← hs4] at ho4
    have HB4 := hide ((unhide HB3).trans (hb4.mono (unhide HS1)))
    have HV4 := hide ((unhide HV3).kept hb4 (Nat.le_refl _))
    have HO4 := hide ho4
    have HS4 := hide (show w1.heap.size ≤ w4.heap.size by rw [hs4]; exact unhide HS3)
    clear hb4 hs4 ho4 HB3 HV3 HO3 HS3
    have HM : Hid (zs.length ≤ 1000000000000) := hide (by have := unhide HL; omega)
    obtain ⟨m, hm⟩ : ∃ m, zs.length = m := ⟨_, rfl⟩
    rw [hm] at HO4 HM ⊢
    clear hm HL
    have hm2 : m ≤ 1000000000000 := unhide HM
    have hq2 : (((1 + m : Nat) : Int) != ((1 + m : Nat) : Int)) = false := by simp
    go_wp2_with fail
    refine (heldIntS_any _ _ v2 1 m w4 (unhide HO4) (unhide HM) (by omega)).mono ?_
    rintro e w' ⟨rfl, rfl⟩
    go_wp2_with fail
    refine (unhide HI _).mono ?_
    rintro e w5 ⟨v3, rfl, ho5, hb5⟩
    have HB5 := hide ((unhide HB4).trans (hb5.mono (unhide HB4).size))
    have HV5 := hide ((unhide HV4).kept (hb5.mono (unhide HS4)) (Nat.le_refl _))
    have HW5 := hide ((unhide HO4).kept hb5 hb5.size)
    have HO5 := hide ho5
    have HS5 := hide (Nat.le_trans (unhide HS4) hb5.size)
    clear hb5 ho5 HB4 HV4 HO4 HS4
    go_wp2_with fail
    refine (unhide HE _ v3 _ (unhide HO5) (unhide HV5) (unhide HS5)).mono ?_
    rintro e w6 ⟨rfl, hb6⟩
    have HB6 := hide ((unhide HB5).trans (hb6.mono (unhide HB5).size))
    have HW6 := hide ((unhide HW5).kept hb6 hb6.size)
    clear hb6 HB5 HV5 HW5 HO5 HS5
    go_wp2_with fail
    refine (heldIntS_any _ _ v2 1 m w6 (unhide HW6) (unhide HM) (by omega)).mono ?_
    rintro e w' ⟨rfl, rfl⟩
    go_wp2
    go_ret
    exact ⟨rfl, unhide HB6⟩
end Go.Proofs.Ytkiaidjkhhljhaa
