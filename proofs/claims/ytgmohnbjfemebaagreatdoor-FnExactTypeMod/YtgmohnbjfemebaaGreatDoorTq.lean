/- The walk of l2Expr out of l2Node's contract. Conditions: the tree can be read. -/
import Derived.Test.YtgmohnbjfemebaaGreatDoorTp
namespace Go.Proofs.YtgmohnbjfemebaaGreatDoor
open Go.RowKit Go.PlainAid

/-- An expression is right, but for what is in it. -/
def nodeB (k m : Int) (nm md : ByteArray) (n : Nat) : Bool :=
  if k = 1 then (decide (n = 0) && plainB m nm md true false false) && (decide (m < 100000000000000000) && decide (-100000000000000000 < m))
  else if k = 2 then (decide (n = 0) && plainB m nm md true false false) && (decide (m = 0) || decide (m = 1))
  else if k = 3 then (decide (n = 0) && plainB m nm md false true false) && nameB nm.data.toList
  else if k = 4 then plainB m nm md false true false && decide ((n : Int) = arityI (primN nm.toList))
  else if k = 5 then decide (n = 3) && plainB m nm md false false false
  else if k = 6 then (decide (n = 2) && plainB m nm md false true false) && nameB nm.data.toList
  else if k = 7 then ((decide (n ≤ 4) && plainB m nm md false true true) && nameB nm.data.toList) && ((md.toList == []) || nameB md.data.toList)
  else if k = 8 then decide (n ≤ 8) && plainB m nm md false false false
  else false
mutual
/-- An expression is right. -/
def TE.ok : TE → Bool
  | .node k m nm md kids => nodeB k m nm md kids.length && okL kids
def okL : List TE → Bool
  | [] => true
  | e :: t => e.ok && okL t
end
theorem okL_all : ∀ l : List TE, okL l = l.all TE.ok
  | [] => rfl
  | e :: t => by rw [okL, List.all_cons, okL_all t]
theorem ok_step (kids : List TE) (k : Nat) (h : k < kids.length) : okL (kids.take (k + 1)) = (okL (kids.take k) && kids[k].ok) := by
  rw [okL_all, okL_all, List.take_succ_eq_append_getElem h, List.all_append]; simp
theorem ok_bad (kids : List TE) (k : Nat) (h : k < kids.length) (hb : kids[k].ok = false) : okL kids = false := by
  rw [okL_all, List.all_eq_false]
  exact ⟨_, List.getElem_mem h, by rw [hb]; simp⟩
/-- The contract of l2Node. -/
def NodeS : Prop := ∀ (k m : Int) (nm md : ByteArray) (a : Option Addr) (len cap : Nat) (w : World), len ≤ maxLen →
  Calls Tryz.prog 117 #[.agg #[.int .i64 k, .int .i64 m, .string nm, .string md, .slice a len cap]] w fun r w' => r = .returned (.bool (nodeB k m nm md len)) ∧ Below w.heap.size w w'

set_option maxHeartbeats 1000000 in
theorem l2Expr_any (HN : NodeS) (lo : Nat) : ∀ (h : Nat) (v : Value) (e : TE) (w : World), IsE w lo w.heap.size h v e →
    Calls Tryz.prog 82 #[v] w fun r w' => r = .returned (.bool e.ok) ∧ Below w.heap.size w w' := by
  intro h
  induction h with
  | zero => intro v e w hE; exact hE.elim
  | succ h ih =>
    intro v e w hE
    obtain ⟨kd, m, nm, md, kids⟩ := e
    obtain ⟨a, cap, rfl, ⟨_, _, hs3⟩, hk⟩ := hE
    have HNN := hide (fun w => HN kd m nm md a kids.length cap w hs3)
    unfold maxLen at hs3
    have HK := hide hk
    have IH := hide ih
    clear ih hk HN
    have HOK : Hid ((TE.node kd m nm md kids).ok = (nodeB kd m nm md kids.length && okL kids)) := hide (by rw [TE.ok])
    go_enter Tryz.func82, Tryz.ntmps82
    go_wp2_with fail
    refine (unhide HNN _).mono ?_
    rintro r w1 ⟨rfl, hb1⟩
    have hB1 : Below w.heap.size w w1 := ((Below.refl _ _).alloc (Nat.le_refl _) _).trans (hb1.mono (by simp))
    have hz1 : w.heap.size < w1.heap.size := by have := hb1.size; rw [alloc_size] at this; omega
    have hc1 : w1.cell? ⟨w.heap.size, 4, none⟩ = some (.slice a kids.length cap) := (hb1.cell (p := ⟨w.heap.size, 4, none⟩) (by simp)).trans (by simp)
    have HB1 := hide hB1
    have HZ1 := hide hz1
    clear hb1 hB1 hz1
    cases hnb : nodeB kd m nm md kids.length with
    | false =>
      have HF : Hid ((TE.node kd m nm md kids).ok = false) := hide (by rw [unhide HOK, hnb]; rfl)
      go_wp2
      go_ret
      exact ⟨ret_bool (unhide HF).symm, unhide HB1⟩
    | true =>
      have HO : Hid ((TE.node kd m nm md kids).ok = okL kids) := hide (by rw [unhide HOK, hnb]; rfl)
      clear HOK
      go_wp2
      go_loopw [3] (fun i wr => ∃ k : Nat, k ≤ kids.length ∧ i = .int .i64 k ∧ Hid (okL (kids.take k) = true) ∧ wr.cell? ⟨w.heap.size, 4, none⟩ = some (.slice a kids.length cap) ∧ Hid (w.heap.size < wr.heap.size) ∧ Hid (Below w.heap.size w wr)) (fun i _ => kids.length - (intOf i).toNat)
      case atStart => exact ⟨0, Nat.zero_le _, rfl, hide rfl, hc1, HZ1, HB1⟩
      case round =>
        obtain ⟨k, hk, rfl, HS, hc, HZ, HB⟩ := hrel
        by_cases hp : k < kids.length
        · rcases (unhide HK).kept (unhide HB) (unhide HB).size with hq | ⟨b, off, rfl, hbl, hbn, hcs⟩
          · rw [hq] at hp; simp at hp
          obtain ⟨c0, c1, c2, c3, c4, d0, d1, d2, d3, d4, hr⟩ := hcs k hp
          have hs1 := ok_step kids k hp
          have hs2 := ok_bad kids k hp
          generalize kids[k] = e at hr hs1 hs2
          have HR := hide hr
          have HX1 := hide hs1
          have HX2 := hide hs2
          clear hcs hr hs1 hs2
          go_wp2_with fail
          refine (unhide IH _ e wr (unhide HR)).mono ?_
          rintro r w2 ⟨rfl, hb2⟩
          have hc2 : w2.cell? ⟨w.heap.size, 4, none⟩ = some (.slice (some ⟨b, off, none⟩) kids.length cap) := (hb2.cell (p := ⟨w.heap.size, 4, none⟩) (unhide HZ)).trans hc
          have HB2 := hide ((unhide HB).trans (hb2.mono (unhide HB).size))
          have HZ2 : Hid (w.heap.size < w2.heap.size) := hide (by have := unhide HZ; have := hb2.size; omega)
          clear hb2 hc HB HZ d0 d1 d2 d3 d4 HR
          cases hok : e.ok with
          | true =>
            have HN2 : Hid (okL (kids.take (k + 1)) = true) := hide (by rw [unhide HX1, unhide HS, hok]; rfl)
            go_wp2
            go_roundw
            case rel => exact ⟨k + 1, by omega, by go_num, HN2, hc2, HZ2, HB2⟩
            case measure => simp [intOf] <;> omega
          | false =>
            have HF : Hid ((TE.node kd m nm md kids).ok = false) := hide (by rw [unhide HO]; exact unhide HX2 hok)
            go_wp2
            go_ret
            exact ⟨ret_bool (unhide HF).symm, unhide HB2⟩
        · have HF : Hid ((TE.node kd m nm md kids).ok = true) := hide (by
            have e : kids.take k = kids := List.take_of_length_le (by omega)
            rw [unhide HO, ← e]; exact unhide HS)
          go_wp2
          go_ret
          exact ⟨ret_bool (unhide HF).symm, unhide HB⟩
end Go.Proofs.YtgmohnbjfemebaaGreatDoor
