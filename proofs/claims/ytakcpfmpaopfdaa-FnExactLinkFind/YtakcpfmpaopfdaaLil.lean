/- The walk of the law on LinkFind: it returns true and turns nothing that was there. Conditions: the parts can be read. -/
import Derived.Test.YtakcpfmpaopfdaaLij
namespace Go.Proofs.Ytakcpfmpaopfdaa
open Go.RowKit Go.PlainAid

theorem wt_of_leftP {n : Nat} (h : ¬ leftI 1048576 n < 0) : n ≤ 1048576 := by
  unfold leftI at h
  by_cases g : (n : Int) ≤ 1048576
  · omega
  · rw [if_neg g] at h; omega

set_option maxRecDepth 100000 in
set_option maxHeartbeats 4000000 in
theorem fnExactLinkFind_walk (a : Option Addr) (cap : Nat) (l : List TP) (md nm : ByteArray) (w : World) (hk : Parts w 0 a l) (hl : l.length ≤ maxLen) (_ : md.size ≤ maxLen) (_ : nm.size ≤ maxLen) :
    Calls Try.prog 3 #[.slice a l.length cap, .string md, .string nm] w fun e w' => e = .returned (.bool true) ∧ Below w.heap.size w w' := by
  by_cases hmd : 1048576 < md.size
  · clear hk hl
    go_enter Try.func3, Try.ntmps3
    go_wp2
    go_ret
    exact ⟨rfl, Below.refl _ _⟩
  by_cases hnm : 1048576 < nm.size
  · clear hk hl
    go_enter Try.func3, Try.ntmps3
    go_wp2
    go_ret
    exact ⟨rfl, Below.refl _ _⟩
  have HK := hide hk
  have HSZ := hide (szTreePaS_of 0 (szLinkPart_any 0) a cap l w 1048576 hk hl (by omega) (by omega))
  clear hk
  go_enter Try.func3, Try.ntmps3
  go_wp2_with fail
  refine (unhide HSZ).mono ?_
  rintro r w1 ⟨rfl, hb1⟩
  have HB1 := hide hb1
  clear hb1 HSZ
  by_cases hlt : leftI 1048576 (l.length + wtPas l) < 0
  · generalize leftI 1048576 (l.length + wtPas l) = L at hlt
    go_wp2
    go_ret
    exact ⟨rfl, unhide HB1⟩
  have hwt := wt_of_leftP hlt
  generalize leftI 1048576 (l.length + wtPas l) = L at hlt
  have HTO := hide (fun (W : World) (hb : Below w.heap.size w W) => toTreePaS_of 0 (toLinkPart_any 0) a cap l W ((unhide HK).kept hb hb.size) hwt)
  have HWT := hide (show wtPas l ≤ 1048576 by omega)
  have HLL := hide (show l.length ≤ 1048576 by omega)
  have HL := hide hl
  clear hwt HK hl
  go_wp2_with fail
  refine (unhide HTO _ (unhide HB1)).mono ?_
  rintro r w2 ⟨a2, rfl, hk2, hb2⟩
  have HB2 := hide ((unhide HB1).trans (hb2.mono (unhide HB1).size))
  have HOS := hide (LinkFindS_any _ a2 l.length l md nm w2 hk2 (unhide HL) (unhide HWT))
  clear hk2 hb2 HB1
  go_wp2_with fail
  refine (unhide HOS).mono ?_
  rintro r w3 ⟨rfl, hb3⟩
  have HB3 := hide ((unhide HB2).trans (hb3.mono (unhide HB2).size))
  clear hb3 HB2 HOS
  obtain ⟨n, hn⟩ : ∃ n, numO (findO l md nm) = n := ⟨_, rfl⟩
  obtain ⟨B, hB⟩ : ∃ B, (findO l md nm).isSome = B := ⟨_, rfl⟩
  rw [hn, hB]
  have HN := hide (And.intro hn hB)
  clear hn hB
  go_wp2_with fail
  refine (unhide HTO _ (unhide HB3)).mono ?_
  rintro r w4 ⟨a4, rfl, hk4, hb4⟩
  have HB4 := hide ((unhide HB3).trans (hb4.mono (unhide HB3).size))
  have HOI := hide (LinkFindI_any _ a4 l.length l md nm w4 hk4 (unhide HL) (Nat.le_refl _) (unhide HL) (unhide HWT))
  have HK4 := hide hk4
  clear hk4 hb4 HB3
  go_wp2_with fail
  refine (unhide HOI).mono ?_
  rintro r w5 ⟨rfl, hb5⟩
  rw [(unhide HN).1, (unhide HN).2]
  have HB5 := hide ((unhide HB4).trans (hb5.mono (unhide HB4).size))
  have HK5 := hide ((unhide HK4).kept hb5 hb5.size)
  clear hb5 HB4 HOI HK4
  have hq : (B != B) = false := by simp
  have hq2 : (n != n) = false := by simp
  go_wp2_with fail
  refine (unhide HTO _ (unhide HB5)).mono ?_
  rintro r w6 ⟨a6, rfl, hk6, hb6⟩
  have HB6 := hide ((unhide HB5).trans (hb6.mono (unhide HB5).size))
  have HEQ := hide (eqTreePaS_of _ _ (eqLinkPart_any _ _) a4 a6 l.length l.length l w6 (unhide HL) ((unhide HK5).kept hb6 hb6.size) hk6)
  clear hk6 hb6 HB5 HK5 HTO
  go_wp2_with fail
  refine (unhide HEQ).mono ?_
  rintro r w7 ⟨rfl, hb7⟩
  have HB7 := hide ((unhide HB6).trans (hb7.mono (unhide HB6).size))
  clear hb7
  go_wp2
  go_ret
  exact ⟨rfl, unhide HB7⟩
end Go.Proofs.Ytakcpfmpaopfdaa
