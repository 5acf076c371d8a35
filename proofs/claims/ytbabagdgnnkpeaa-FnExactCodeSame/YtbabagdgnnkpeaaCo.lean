/- The walk of slices.EqualFunc over codeSameFun. Conditions: the rows can be read, the parameters are at most 1048576. -/
import Derived.Test.YtbabagdgnnkpeaaCm
namespace Go.Proofs.Ytbabagdgnnkpeaa
open Go.RowKit Go.PlainAid

abbrev FVc (f : Nat) : Value := .func (.func f) #[] #[]

set_option maxRecDepth 100000 in
set_option maxHeartbeats 4000000 in
theorem equalFuns_any (lo lo2 : Nat) (a a2 : Option Addr) (cap cap2 : Nat) (l m : List TC) (w : World) (h : IsCfs (IsCf w lo w.heap.size) w lo w.heap.size a l) (h2 : IsCfs (IsCf w lo2 w.heap.size) w lo2 w.heap.size a2 m) (hl : l.length ≤ maxLen) (hz : ∀ x ∈ l, x.args.length ≤ 1048576) :
    Calls Try.prog 15 #[.slice a l.length cap, .slice a2 m.length cap2, FVc 16] w fun r w' => r = .returned (.bool (allE cfB l m)) ∧ Below w.heap.size w w' := by
  unfold maxLen at hl
  have hcf : ∀ (x0 x1 : Value) (W : World), (callFunc 16 #[x0, x1]).run Try.prog W = .ok (.enter 16 #[x0, x1]) W := fun _ _ _ => by kernel_rfl
  have HW := hide h
  have HV := hide h2
  have HZ := hide hz
  clear h h2 hz
  by_cases hlm : l.length = m.length
  · have hq : ((l.length : Int) != (m.length : Int)) = false := by simp [hlm]
    have HLM := hide hlm
    clear hlm
    go_enter Try.func15, Try.ntmps15
    go_wp2
    go_loopw [7, 8, 9, 17] (fun _ _ _ i wr => ∃ k : Nat, k ≤ l.length ∧ i = .int .i64 k ∧ Hid (Below w.heap.size w wr) ∧ Hid (∀ j (h1 : j < l.length) (h2 : j < m.length), j < k → cfB l[j] m[j] = true)) (fun _ _ _ i _ => l.length - (intOf i).toNat)
    case atStart => exact ⟨0, Nat.zero_le _, rfl, hide (Below.refl _ _), hide (fun j _ _ hj => absurd hj (Nat.not_lt_zero _))⟩
    case round =>
      obtain ⟨k, hk, rfl, HB, HI⟩ := hrel
      by_cases hp : k < l.length
      · have hp2 : k < m.length := by have := unhide HLM; omega
        rcases (unhide HW).kept (unhide HB) (unhide HB).size with h | ⟨g, off, rfl, hbl, hgl, hc⟩
        · rw [h] at hp; simp at hp
        rcases (unhide HV).kept (unhide HB) (unhide HB).size with h | ⟨g2, off2, rfl, hbl2, hgl2, hc2⟩
        · rw [h] at hp2; simp at hp2
        obtain ⟨c0, c1, c2, c3, c4, c5, x0, x1, x2, x3, x4, x5, hr⟩ := hc k hp
        obtain ⟨e0, e1, e2, e3, e4, e5, y0, y1, y2, y3, y4, y5, hr2⟩ := hc2 k hp2
        have HN := hide (allE_no (f := cfB) (l := l) (m := m) hp hp2)
        have HY := hide (fun (h : cfB (l[k]'hp) (m[k]'hp2) = true) (j : Nat) (h1 : j < l.length) (h2 : j < m.length) (hjk : j < k + 1) => show cfB l[j] m[j] = true from by
          by_cases e : j = k
          · subst e; exact h
          · exact unhide HI j h1 h2 (by omega))
        have hzk := unhide HZ _ (List.getElem_mem hp)
        obtain ⟨s, hs⟩ : ∃ s, l[k]'hp = s := ⟨_, rfl⟩
        obtain ⟨t, ht⟩ : ∃ t, m[k]'hp2 = t := ⟨_, rfl⟩
        rw [hs] at hr HN HY hzk
        rw [ht] at hr2 HN HY
        have HQ := hide (fun (W : World) (hb : Below wr.heap.size wr W) => codeSameFun_any lo lo2 _ _ s t W (IsCf.same (Below.same hb) (Nat.le_refl _) hb.size _ _ hr) (IsCf.same (Below.same hb) (Nat.le_refl _) hb.size _ _ hr2) hzk)
        obtain ⟨B, hB⟩ : ∃ B, cfB s t = B := ⟨_, rfl⟩
        rw [hB] at HN HY HQ
        obtain ⟨f0, f1, f2, f3, f4, f5, f6, f7, f8, f9, rfl, rfl, rfl, rfl, rfl, rfl⟩ := IsCf.form hr
        obtain ⟨k0, k1, k2, k3, k4, k5, k6, k7, k8, k9, rfl, rfl, rfl, rfl, rfl, rfl⟩ := IsCf.form hr2
        have z0 : ∀ o, (wr.alloc o).cell? ⟨g2, off2 + k * 6, none⟩ = _ := fun o => (((Below.refl wr.heap.size wr).alloc (Nat.le_refl _) o).cell (p := ⟨g2, off2 + k * 6, none⟩) hgl2).trans y0
        have z1 : ∀ o, (wr.alloc o).cell? ⟨g2, off2 + k * 6 + 1, none⟩ = _ := fun o => (((Below.refl wr.heap.size wr).alloc (Nat.le_refl _) o).cell (p := ⟨g2, off2 + k * 6 + 1, none⟩) hgl2).trans y1
        have z2 : ∀ o, (wr.alloc o).cell? ⟨g2, off2 + k * 6 + 2, none⟩ = _ := fun o => (((Below.refl wr.heap.size wr).alloc (Nat.le_refl _) o).cell (p := ⟨g2, off2 + k * 6 + 2, none⟩) hgl2).trans y2
        have z3 : ∀ o, (wr.alloc o).cell? ⟨g2, off2 + k * 6 + 3, none⟩ = _ := fun o => (((Below.refl wr.heap.size wr).alloc (Nat.le_refl _) o).cell (p := ⟨g2, off2 + k * 6 + 3, none⟩) hgl2).trans y3
        have z4 : ∀ o, (wr.alloc o).cell? ⟨g2, off2 + k * 6 + 4, none⟩ = _ := fun o => (((Below.refl wr.heap.size wr).alloc (Nat.le_refl _) o).cell (p := ⟨g2, off2 + k * 6 + 4, none⟩) hgl2).trans y4
        have z5 : ∀ o, (wr.alloc o).cell? ⟨g2, off2 + k * 6 + 5, none⟩ = _ := fun o => (((Below.refl wr.heap.size wr).alloc (Nat.le_refl _) o).cell (p := ⟨g2, off2 + k * 6 + 5, none⟩) hgl2).trans y5
        clear hc hc2 hs ht HI hr hr2 hzk hB
        go_wp2_with fail
        refine (unhide HQ _ (((Below.refl wr.heap.size wr).alloc (Nat.le_refl _) _).alloc (by simp) _)).mono ?_
        rintro r w2 ⟨rfl, hb2⟩
        have HB2 := hide ((unhide HB).trans (((((Below.refl wr.heap.size wr).alloc (Nat.le_refl _) _).alloc (by simp) _).trans (hb2.mono (by simp; omega))).mono (unhide HB).size))
        clear hb2 x0 x1 x2 x3 x4 x5 y0 y1 y2 y3 y4 y5 z0 z1 z2 z3 z4 z5
        cases B with
        | true =>
          have HI2 := hide (unhide HY rfl)
          go_wp2
          go_roundw
          case rel => exact ⟨k + 1, by omega, by go_num, HB2, HI2⟩
          case measure => simp [intOf]; omega
        | false =>
          have HR := hide (unhide HN rfl)
          go_wp2
          go_ret
          exact ⟨ret_bool (unhide HR).symm, unhide HB2⟩
      · have HR : Hid (allE cfB l m = true) := hide (allE_yes (unhide HLM) (fun j h1 h2 => unhide HI j h1 h2 (by omega)))
        go_wp2
        go_ret
        exact ⟨ret_bool (unhide HR).symm, unhide HB⟩
  · have HR : Hid (allE cfB l m = false) := hide (allE_len hlm)
    have hq : ((l.length : Int) != (m.length : Int)) = true := by simp; omega
    go_enter Try.func15, Try.ntmps15
    go_wp2
    go_ret
    exact ⟨ret_bool (unhide HR).symm, Below.refl _ _⟩
end Go.Proofs.Ytbabagdgnnkpeaa
