/- The walks of szTreeExpr and szTreeExprS: what a tree weighs. Conditions: the tree can be read. -/
import Derived.Test.YtgmohnbjfemebaaGreatDoorTb
namespace Go.Proofs.YtgmohnbjfemebaaGreatDoor
open Go.RowKit Go.PlainAid

mutual
def TE.wt : TE → Nat
  | .node _ _ nm md kids => nm.size + md.size + (kids.length + wtL kids)
def wtL : List TE → Nat
  | [] => 0
  | e :: t => e.wt + wtL t
end
theorem wtL_append : ∀ (l r : List TE), wtL (l ++ r) = wtL l + wtL r
  | [], r => by simp [wtL]
  | e :: t, r => by rw [List.cons_append, wtL, wtL, wtL_append t r]; omega
theorem wt_step (kids : List TE) (k : Nat) (h : k < kids.length) : wtL (kids.take (k + 1)) = wtL (kids.take k) + kids[k].wt := by
  rw [List.take_succ_eq_append_getElem h, wtL_append]; simp [wtL]
theorem wt_le (kids : List TE) (k : Nat) : wtL (kids.take k) ≤ wtL kids := by
  have := wtL_append (kids.take k) (kids.drop k)
  rw [List.take_append_drop] at this
  omega
mutual
theorem nodes_wt : ∀ e : TE, e.nodes ≤ e.wt + 1
  | .node _ _ _ _ kids => by
    have := nodesL_wt kids
    rw [TE.nodes, TE.wt]; omega
theorem nodesL_wt : ∀ l : List TE, nodesL l ≤ l.length + wtL l
  | [] => Nat.le_refl _
  | e :: t => by
    have h1 := nodes_wt e
    have h2 := nodesL_wt t
    rw [nodesL, wtL, List.length_cons]; omega
end
/-- What is left behind a weight, or -1. -/
def leftI (left : Int) (n : Nat) : Int := if (n : Int) ≤ left then left - n else -1
theorem left_no {left : Int} {n : Nat} (h : left < (n : Int)) : leftI left n = -1 := if_neg (by omega)
theorem left_yes {left : Int} {n : Nat} (h : (n : Int) ≤ left) : leftI left n = left - n := if_pos h

/-- The contract of szTreeExpr for trees at most h deep. -/
def SzE (lo h : Nat) : Prop := ∀ (v : Value) (e : TE) (w : World) (left : Int), IsE w lo w.heap.size h v e → 0 ≤ left → left ≤ 1048576 →
  Calls Tryz.prog 17 #[v, .int .i64 left] w fun r w' => r = .returned (.int .i64 (leftI left e.wt)) ∧ Below w.heap.size w w'

set_option maxHeartbeats 1000000 in
theorem szTreeExprS_of (lo h : Nat) (H : SzE lo h) (a : Option Addr) (cap : Nat) (kids : List TE) (w : World) (left : Int) (hk : IsKids (IsE w lo w.heap.size h) w lo w.heap.size a kids) (hl : kids.length ≤ maxLen) (h0 : 0 ≤ left) (h1 : left ≤ 1048576) :
    Calls Tryz.prog 47 #[.slice a kids.length cap, .int .i64 left] w fun r w' => r = .returned (.int .i64 (leftI left (kids.length + wtL kids))) ∧ Below w.heap.size w w' := by
  unfold maxLen at hl
  have HK := hide hk
  have HH := hide H
  clear hk H
  by_cases hb : left < (kids.length : Int)
  · have HF := hide (left_no (left := left) (n := kids.length + wtL kids) (by omega))
    go_enter Tryz.func47, Tryz.ntmps47
    go_wp2
    go_ret
    exact ⟨ret_int (unhide HF).symm, Below.refl _ _⟩
  obtain ⟨L, hL⟩ := Int.eq_ofNat_of_zero_le (show 0 ≤ left - kids.length by omega)
  have HL := hide hL
  have hL2 : L ≤ 1048576 := by omega
  go_enter Tryz.func47, Tryz.ntmps47
  go_wp2
  go_loopw [1, 5] (fun l i wr => ∃ k M : Nat, k ≤ kids.length ∧ i = .int .i64 k ∧ l = .int .i64 M ∧ M ≤ 1048576 ∧ Hid (wtL (kids.take k) + M = L) ∧ Hid (Below w.heap.size w wr)) (fun _ i _ => kids.length - (intOf i).toNat)
  case atStart => exact ⟨0, L, Nat.zero_le _, rfl, by rw [← unhide HL], hL2, hide (by simp [wtL]), hide (Below.refl _ _)⟩
  case round =>
    obtain ⟨k, M, hk, rfl, rfl, hM, HS, HB⟩ := hrel
    by_cases hp : k < kids.length
    · rcases (unhide HK).kept (unhide HB) (unhide HB).size with hq | ⟨b, off, rfl, hbl, hbn, hcs⟩
      · rw [hq] at hp; simp at hp
      obtain ⟨c0, c1, c2, c3, c4, d0, d1, d2, d3, d4, hr⟩ := hcs k hp
      have hs1 := wt_step kids k hp
      have hs3 := wt_le kids (k + 1)
      generalize kids[k] = e at hr hs1
      have HR := hide hr
      have HX1 := hide hs1
      have HX3 := hide hs3
      clear hcs hr hs1 hs3
      go_wp2_with fail
      refine (unhide HH _ e wr M (unhide HR) (by omega) (by omega)).mono ?_
      rintro r w2 ⟨rfl, hb2⟩
      have HB2 := hide ((unhide HB).trans (hb2.mono (unhide HB).size))
      clear hb2 HB d0 d1 d2 d3 d4 HR
      by_cases hw : e.wt ≤ M
      · have el : leftI (M : Int) e.wt = ((M - e.wt : Nat) : Int) := by rw [left_yes (by omega)]; omega
        rw [el]
        obtain ⟨M', hM'⟩ : ∃ M', M - e.wt = M' := ⟨_, rfl⟩
        rw [hM']
        have HM := hide hM'
        have hM2 : M' ≤ 1048576 := by omega
        have HWT := hide hw
        clear el hM' hw
        go_wp2
        go_roundw
        case rel => exact ⟨k + 1, M', by omega, by go_num, rfl, hM2, hide (by rw [unhide HX1]; have := unhide HM; have := unhide HS; have := unhide HWT; omega), HB2⟩
        case measure => simp [intOf] <;> omega
      · have el : leftI (M : Int) e.wt = -1 := left_no (by omega)
        rw [el]
        have HF : Hid (leftI left (kids.length + wtL kids) = -1) := hide (left_no (by have := unhide HX1; have := unhide HX3; have := unhide HS; have := unhide HL; omega))
        clear el hw
        go_wp2
        go_ret
        exact ⟨ret_int (unhide HF).symm, unhide HB2⟩
    · have HF : Hid (leftI left (kids.length + wtL kids) = (M : Int)) := hide (by
        have e : kids.take k = kids := List.take_of_length_le (by omega)
        have h1 := unhide HS
        rw [e] at h1
        have h2 := unhide HL
        rw [left_yes (by omega)]; omega)
      go_wp2
      go_ret
      exact ⟨ret_int (unhide HF).symm, unhide HB⟩

set_option maxHeartbeats 1000000 in
theorem szTreeExpr_any (lo : Nat) : ∀ h, SzE lo h := by
  intro h
  induction h with
  | zero => intro v e w left hE; exact hE.elim
  | succ h ih =>
    intro v e w left hE h0 h1
    obtain ⟨kd, m, nm, md, kids⟩ := e
    obtain ⟨a, cap, rfl, ⟨hs1, hs2, hs3⟩, hk⟩ := hE
    have HS := hide (fun (w' : World) (left : Int) (hb : Below w.heap.size w w') => szTreeExprS_of lo h ih a cap kids w' left (hk.kept hb hb.size) hs3)
    unfold maxLen at hs1 hs2 hs3
    rw [TE.wt]
    clear hk ih
    by_cases g1 : left < (nm.size : Int)
    · have HF := hide (left_no (left := left) (n := nm.size + md.size + (kids.length + wtL kids)) (by omega))
      go_enter Tryz.func17, Tryz.ntmps17
      go_wp2
      go_ret
      exact ⟨ret_int (unhide HF).symm, (Below.refl _ _).alloc (Nat.le_refl _) _⟩
    by_cases g2 : left - nm.size < (md.size : Int)
    · have HF := hide (left_no (left := left) (n := nm.size + md.size + (kids.length + wtL kids)) (by omega))
      go_enter Tryz.func17, Tryz.ntmps17
      go_wp2
      go_ret
      exact ⟨ret_int (unhide HF).symm, (Below.refl _ _).alloc (Nat.le_refl _) _⟩
    obtain ⟨L, hL⟩ := Int.eq_ofNat_of_zero_le (show 0 ≤ left - nm.size - md.size by omega)
    have hL2 : L ≤ 1048576 := by omega
    go_enter Tryz.func17, Tryz.ntmps17
    go_wp2_with fail
    refine (unhide HS _ _ ((Below.refl _ _).alloc (Nat.le_refl _) _) (by omega) (by omega)).mono ?_
    rintro r w2 ⟨rfl, hb2⟩
    have HB2 := hide (((Below.refl w.heap.size w).alloc (Nat.le_refl _) _).trans (hb2.mono (by simp)))
    clear hb2
    by_cases hw : kids.length + wtL kids ≤ L
    · have el : leftI (L : Int) (kids.length + wtL kids) = ((L - (kids.length + wtL kids) : Nat) : Int) := by rw [left_yes (by omega)]; omega
      have HF : Hid (leftI left (nm.size + md.size + (kids.length + wtL kids)) = ((L - (kids.length + wtL kids) : Nat) : Int)) := hide (by rw [left_yes (by omega)]; omega)
      rw [el]
      obtain ⟨M', hM'⟩ : ∃ M', L - (kids.length + wtL kids) = M' := ⟨_, rfl⟩
      rw [hM'] at HF ⊢
      clear el hw hM'
      go_wp2
      go_ret
      exact ⟨ret_int (unhide HF).symm, unhide HB2⟩
    · have el : leftI (L : Int) (kids.length + wtL kids) = -1 := left_no (by omega)
      have HF : Hid (leftI left (nm.size + md.size + (kids.length + wtL kids)) = -1) := hide (left_no (by omega))
      rw [el]
      clear el hw
      go_wp2
      go_ret
      exact ⟨ret_int (unhide HF).symm, unhide HB2⟩
end Go.Proofs.YtgmohnbjfemebaaGreatDoor
