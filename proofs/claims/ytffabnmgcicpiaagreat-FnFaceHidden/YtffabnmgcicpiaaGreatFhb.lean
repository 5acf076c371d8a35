/- The walk of wfSame at two lists that are the same. Conditions: the lists can be read. -/
import Derived.Test.YtffabnmgcicpiaaGreatG2
import Derived.BigQuiet
import Derived.WalkSmall
import Derived.Deep.QuietTactic
namespace Go.Proofs.YtffabnmgcicpiaaGreat
open Go.RowKit Go.PlainAid

set_option maxRecDepth 100000 in
set_option maxHeartbeats 8000000 in
theorem wfSame_any (lo lo' : Nat) (a a' : Option Addr) (c c' : Nat) (l : List TS) (w : World) (h1 : IsSigs (IsSig w lo w.heap.size) w lo w.heap.size a l) (h2 : IsSigs (IsSig w lo' w.heap.size) w lo' w.heap.size a' l) (hl : l.length ≤ 100000) (hs : ∀ s ∈ l, s.args.length ≤ 100000) :
    Calls Tryz.prog 7 #[.slice a l.length c, .slice a' l.length c'] w fun r w' => r = .returned (.bool true) ∧ Below w.heap.size w w' := by
  have H1 := hide h1
  have H2 := hide h2
  have HS := hide hs
  have hq : ((l.length : Int) != (l.length : Int)) = false := by simp
  clear h1 h2 hs
  go_enter Tryz.func7, Tryz.ntmps7
  go_wp2
  go_loopw [5, 6] (fun i _ wr => ∃ k : Nat, k ≤ l.length ∧ i = .int .i64 k ∧ Hid (Below w.heap.size w wr)) (fun i _ _ => l.length - (intOf i).toNat)
  case atStart => exact ⟨0, Nat.zero_le _, rfl, hide (Below.refl _ _)⟩
  case round =>
    obtain ⟨k, hk, rfl, HB⟩ := hrel
    by_cases hp : k < l.length
    · rcases (unhide H1).kept (unhide HB) (unhide HB).size with hq | ⟨b, off, rfl, hbl, hbn, hcs⟩
      · rw [hq] at hp; simp at hp
      rcases (unhide H2).kept (unhide HB) (unhide HB).size with hq | ⟨b', off', rfl, hbl', hbn', hcs'⟩
      · rw [hq] at hp; simp at hp
      obtain ⟨c0, c1, c2, d0, d1, d2, hr⟩ := hcs k hp
      obtain ⟨c0', c1', c2', d0', d1', d2', hr'⟩ := hcs' k hp
      have hn := unhide HS _ (List.getElem_mem hp)
      obtain ⟨x, hx⟩ : ∃ x, l[k]'hp = x := ⟨_, rfl⟩
      rw [hx] at hr hr' hn
      obtain ⟨nm, args, ty⟩ := x
      obtain ⟨aa, ca, hv, hz, ha⟩ := hr
      obtain ⟨aa', ca', hv', hz', ha'⟩ := hr'
      simp only [Value.agg.injEq, Array.mk.injEq, List.cons.injEq, and_true] at hv hv'
      obtain ⟨rfl, rfl, rfl⟩ := hv
      obtain ⟨rfl, rfl, rfl⟩ := hv'
      dsimp only at hn ha ha'
      have q1 : (nm.toList != nm.toList) = false := by simp
      have q2 : (ty != ty) = false := by simp
      have q3 : ((args.length : Int) != (args.length : Int)) = false := by simp
      have HA := hide ha
      have HA' := hide ha'
      clear hcs hcs' hx hz hz' ha ha'
      go_wp2
      go_quiet (fail)
      have HBW := hide (fun n : Nat => below_drewN (unhide HB) n)
      have HP := hide (And.intro (And.intro d0 (And.intro d1 d2)) (And.intro d0' (And.intro d1' d2')))
      have HBN := hide (And.intro hbn hbn')
      clear d0 d1 d2 d0' d1' d2' HB
      have p1 : wr.cell? ⟨b, off + k * 3 + 1, none⟩ = some (.slice aa args.length ca) := (unhide HP).1.2.1
      go_wp2
      go_loopw [6] (fun j wq => ∃ m : Nat, m ≤ args.length ∧ j = .int .i64 m ∧ Hid (Below wr.heap.size wr wq) ∧ Hid (Below w.heap.size w wq)) (fun j _ => args.length - (intOf j).toNat)
      case atStart => exact ⟨0, Nat.zero_le _, rfl, hide (below_drewN (Below.refl _ _) _), hide (unhide HBW _)⟩
      case round =>
        obtain ⟨m, hm, rfl, HBQ, HBW2⟩ := hrel
        clear p1
        have d0 := ((unhide HBQ).cell (p := ⟨b, off + k * 3, none⟩) (unhide HBN).1).trans (unhide HP).1.1
        have d1 := ((unhide HBQ).cell (p := ⟨b, off + k * 3 + 1, none⟩) (unhide HBN).1).trans (unhide HP).1.2.1
        have d1' := ((unhide HBQ).cell (p := ⟨b', off' + k * 3 + 1, none⟩) (unhide HBN).2).trans (unhide HP).2.2.1
        by_cases hmp : m < args.length
        · rcases (unhide HA).kept (unhide HBQ) (unhide HBQ).size with hq | ⟨g, o, rfl, hgl, hgn, hgc⟩
          · rw [hq] at hmp; simp at hmp
          rcases (unhide HA').kept (unhide HBQ) (unhide HBQ).size with hq | ⟨g', o', rfl, hgl', hgn', hgc'⟩
          · rw [hq] at hmp; simp at hmp
          have e1 := hgc m hmp
          have e2 := hgc' m hmp
          obtain ⟨z, hz⟩ : ∃ z, args[m]'hmp = z := ⟨_, rfl⟩
          rw [hz] at e1 e2
          have q4 : (z != z) = false := by simp
          clear hgc hgc' hz
          go_wp2
          go_quiet (fail)
          go_wp2
          go_roundw
          case rel => exact ⟨m + 1, by omega, by go_num, hide (below_drewN (unhide HBQ) _), hide (below_drewN (unhide HBW2) _)⟩
          case measure => simp [intOf] <;> omega
        · go_wp2
          go_roundw
          case rel => exact ⟨k + 1, by omega, by go_num, HBW2⟩
          case measure => simp [intOf] <;> omega
    · go_wp2
      go_ret
      exact ⟨rfl, unhide HB⟩
end Go.Proofs.YtffabnmgcicpiaaGreat
