/- The walks of eqTreeExpr and eqTreeExprS at trees that are the same. Conditions: the trees can be read, and weigh at most 2^20. -/
import Derived.Test.YtgmohnbjfemebaaGreatDoorTc
import Derived.Deep.QuietTactic
import Derived.BigQuiet
import Derived.Deep.RegionWith
namespace Go.Proofs.YtgmohnbjfemebaaGreatDoor
open Go.RowKit Go.PlainAid

/-- The contract of eqTreeExpr for trees at most h deep. -/
def EqE (lo lo' h : Nat) : Prop := ∀ (v v' : Value) (e : TE) (w : World) (h' : Nat), IsE w lo w.heap.size h v e → IsE w lo' w.heap.size h' v' e →
  Calls Tryz.prog 25 #[v, v'] w fun r w' => r = .returned (.bool true) ∧ Below w.heap.size w w'

set_option maxHeartbeats 1000000 in
theorem eqTreeExprS_of (lo lo' h : Nat) (H : EqE lo lo' h) (a a' : Option Addr) (cap cap' : Nat) (kids : List TE) (w : World) (h' : Nat) (hl : kids.length ≤ maxLen) (hk : IsKids (IsE w lo w.heap.size h) w lo w.heap.size a kids) (hk' : IsKids (IsE w lo' w.heap.size h') w lo' w.heap.size a' kids) :
    Calls Tryz.prog 57 #[.slice a kids.length cap, .slice a' kids.length cap'] w fun r w' => r = .returned (.bool true) ∧ Below w.heap.size w w' := by
  unfold maxLen at hl
  have HK := hide hk
  have HK' := hide hk'
  have HH := hide H
  have hq : ((kids.length : Int) != (kids.length : Int)) = false := by simp
  clear hk hk' H
  go_enter Tryz.func57, Tryz.ntmps57
  go_wp2
  go_loopw [5] (fun i wr => ∃ k : Nat, k ≤ kids.length ∧ i = .int .i64 k ∧ Hid (Below w.heap.size w wr)) (fun i _ => kids.length - (intOf i).toNat)
  case atStart => exact ⟨0, Nat.zero_le _, rfl, hide (Below.refl _ _)⟩
  case round =>
    obtain ⟨k, hk, rfl, HB⟩ := hrel
    by_cases hp : k < kids.length
    · rcases (unhide HK).kept (unhide HB) (unhide HB).size with hq | ⟨b, off, rfl, hbl, hbn, hcs⟩
      · rw [hq] at hp; simp at hp
      rcases (unhide HK').kept (unhide HB) (unhide HB).size with hq | ⟨b', off', rfl, hbl', hbn', hcs'⟩
      · rw [hq] at hp; simp at hp
      obtain ⟨c0, c1, c2, c3, c4, d0, d1, d2, d3, d4, hr⟩ := hcs k hp
      obtain ⟨c0', c1', c2', c3', c4', d0', d1', d2', d3', d4', hr'⟩ := hcs' k hp
      generalize kids[k] = e at hr hr'
      have HR := hide hr
      have HR' := hide hr'
      clear hcs hcs' hr hr'
      have HQ := hide (fun (W : World) (hb : Below wr.heap.size wr W) => unhide HH _ _ e W h' (IsE.kept hb hb.size h _ _ (unhide HR)) (IsE.kept hb hb.size h' _ _ (unhide HR')))
      clear HR HR'
      go_wp2
      go_region_with (go_at_call 25; refine (unhide HQ _ (Below.refl _ _).drew).mono ?_; rintro r w2 ⟨rfl, hb2⟩)
      all_goals
        go_wp2
        go_roundw
        case rel => exact ⟨k + 1, by omega, by go_num, hide ((unhide HB).drew.trans (hb2.mono (unhide HB).drew.size))⟩
        case measure => simp [intOf] <;> omega
    · go_wp2
      go_ret
      exact ⟨rfl, unhide HB⟩

set_option maxHeartbeats 1000000 in
theorem eqTreeExpr_any (lo lo' : Nat) : ∀ h, EqE lo lo' h := by
  intro h
  induction h with
  | zero => intro v v' e w h' hE; exact hE.elim
  | succ h ih =>
    intro v v' e w h' hE hE'
    cases h' with
    | zero => exact hE'.elim
    | succ h' =>
    obtain ⟨kd, m, nm, md, kids⟩ := e
    obtain ⟨a, cap, rfl, ⟨hs1, hs2, hs3⟩, hk⟩ := hE
    obtain ⟨a', cap', rfl, _, hk'⟩ := hE'
    have HS := hide (fun (w' : World) (hb : Below w.heap.size w w') => eqTreeExprS_of lo lo' h ih a a' cap cap' kids w' h' hs3 (hk.kept hb hb.size) (hk'.kept hb hb.size))
    have q1 : (kd != kd) = false := by simp
    have q2 : (m != m) = false := by simp
    have q3 : (nm.toList != nm.toList) = false := by simp
    have q4 : (md.toList != md.toList) = false := by simp
    clear hk hk' ih hs1 hs2 hs3
    go_enter Tryz.func25, Tryz.ntmps25
    go_wp2_with fail
    refine (unhide HS _ (((Below.refl _ w).alloc (Nat.le_refl _) _).alloc (by simp) _)).mono ?_
    rintro r w2 ⟨rfl, hb2⟩
    have HB := hide ((((Below.refl w.heap.size w).alloc (Nat.le_refl _) _).alloc (by simp) _).trans (hb2.mono (by simp; omega)))
    clear hb2
    go_wp2
    go_ret
    exact ⟨rfl, unhide HB⟩
end Go.Proofs.YtgmohnbjfemebaaGreatDoor
