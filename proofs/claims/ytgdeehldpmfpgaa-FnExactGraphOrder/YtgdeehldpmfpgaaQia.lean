/- The walks of slices.Index at words and of wait. Conditions: the rows can be read; the line lies there. -/
import Derived.Test.YtgdeehldpmfpgaaQz
namespace Go.Proofs.Ytgdeehldpmfpgaa
open Go.RowKit Go.PlainAid

/-- The first place of a word, or -1. -/
def idxW (ws : List ByteArray) (x : ByteArray) : Int := match ws.findIdx? (fun y => y.toList == x.toList) with | some k => (k : Int) | none => -1
theorem idxW_at {ws : List ByteArray} {x : ByteArray} {k : Nat} (hk : k < ws.length) (hno : ∀ j (hj : j < ws.length), j < k → (ws[j].toList == x.toList) = false) (he : (ws[k].toList == x.toList) = true) : idxW ws x = k := by
  have : ws.findIdx? (fun y => y.toList == x.toList) = some k := by
    rw [List.findIdx?_eq_some_iff_getElem]
    exact ⟨hk, he, fun j hj => by simp [hno j (by omega) hj]⟩
  unfold idxW
  rw [this]
theorem idxW_none {ws : List ByteArray} {x : ByteArray} (hno : ∀ j (hj : j < ws.length), (ws[j].toList == x.toList) = false) : idxW ws x = -1 := by
  have : ws.findIdx? (fun y => y.toList == x.toList) = none := by
    rw [List.findIdx?_eq_none_iff]
    intro y hy
    obtain ⟨j, hj, rfl⟩ := List.getElem_of_mem hy
    exact hno j hj
  unfold idxW
  rw [this]
set_option maxHeartbeats 1000000 in
theorem indexW_any (lo : Nat) (a : Option Addr) (cap : Nat) (ws : List ByteArray) (x : ByteArray) (w : World) (h : IsWds w lo w.heap.size a ws) (hl : ws.length ≤ maxLen) :
    Calls Try.prog 52 #[.slice a ws.length cap, .string x] w fun r w' => r = .returned (.int .i64 (idxW ws x)) ∧ Below w.heap.size w w' := by
  unfold maxLen at hl
  have HW := hide h
  obtain ⟨R, hR⟩ : ∃ R, idxW ws x = R := ⟨_, rfl⟩
  rw [hR]
  have HR := hide hR
  clear h hR
  go_enter Try.func52, Try.ntmps52
  go_wp2
  go_loop [8] (fun i => ∃ k : Nat, k ≤ ws.length ∧ i = .int .i64 k ∧ Hid (∀ j (hj : j < ws.length), j < k → (ws[j].toList == x.toList) = false)) (fun i => ws.length - (intOf i).toNat)
  case atStart => exact ⟨0, Nat.zero_le _, rfl, hide (fun j _ hj => absurd hj (Nat.not_lt_zero _))⟩
  case round =>
    obtain ⟨k, hk, rfl, HN⟩ := hrel
    by_cases hp : k < ws.length
    · rcases (unhide HW) with hq | ⟨b, off, rfl, hbl, hbn, hc⟩
      · rw [hq] at hp; simp at hp
      have hck := hc k hp
      have HAT := hide (fun he => (unhide HR).symm.trans (idxW_at hp (unhide HN) he))
      have HNX : Hid ((ws[k].toList == x.toList) = false → ∀ j (hj : j < ws.length), j < k + 1 → (ws[j].toList == x.toList) = false) := hide (fun he j hj hjk => by
        by_cases e : j = k
        · subst e; exact he
        · exact unhide HN j hj (by omega))
      obtain ⟨y, hy⟩ : ∃ y, ws[k]'hp = y := ⟨_, rfl⟩
      rw [hy] at hck HAT HNX
      have sy : (x.toList == y.toList) = (y.toList == x.toList) := by rw [Bool.eq_iff_iff]; simp; exact eq_comm
      clear hc hy
      cases he : (y.toList == x.toList) with
      | true =>
        rw [he] at sy
        have HX := hide (unhide HAT he)
        go_wp2
        go_ret
        exact ⟨ret_int (unhide HX).symm, Below.refl _ _⟩
      | false =>
        rw [he] at sy
        have HH := hide (unhide HNX he)
        go_wp2
        go_round
        case rel => exact ⟨k + 1, by omega, by go_num, HH⟩
        case measure => simp [intOf]; omega
    · have HX : Hid (R = -1) := hide ((unhide HR).symm.trans (idxW_none (fun j hj => unhide HN j hj (by omega))))
      go_wp2
      go_ret
      exact ⟨ret_int (unhide HX).symm, Below.refl _ _⟩
/-- How many words there are that were not there before. -/
def cntU : List ByteArray → List ByteArray → Nat
  | _, [] => 0
  | seen, y :: t => (if hasW seen y then 0 else 1) + cntU (seen ++ [y]) t
theorem cntU_step (ws : List ByteArray) (k : Nat) (h : k < ws.length) : cntU (ws.take k) (ws.drop k) = (if hasW (ws.take k) ws[k] then 0 else 1) + cntU (ws.take (k + 1)) (ws.drop (k + 1)) := by
  rw [List.drop_eq_getElem_cons h, cntU, List.take_succ_eq_append_getElem h]
theorem cntU_le (seen : List ByteArray) (ws : List ByteArray) : cntU seen ws ≤ ws.length := by
  induction ws generalizing seen with
  | nil => exact Nat.le_refl _
  | cons y t ih => rw [cntU, List.length_cons]; have := ih (seen ++ [y]); split <;> omega
theorem idxW_first {ws : List ByteArray} {k : Nat} (h : k < ws.length) : (idxW ws ws[k] == (k : Int)) = !(hasW (ws.take k) ws[k]) := by
  cases hh : hasW (ws.take k) ws[k] with
  | true =>
    unfold hasW at hh
    rw [List.any_eq_true] at hh
    obtain ⟨y, hy, he⟩ := hh
    obtain ⟨j, hj, rfl⟩ := List.getElem_of_mem hy
    have hjk : j < k := by rw [List.length_take] at hj; omega
    rw [List.getElem_take] at he
    have hne : idxW ws ws[k] ≠ (k : Int) := by
      intro e
      have hf : ∃ m, ws.findIdx? (fun y => y.toList == ws[k].toList) = some m ∧ m ≤ j := by
        have : ∃ m, ws.findIdx? (fun y => y.toList == ws[k].toList) = some m := by
          cases hc : ws.findIdx? (fun y => y.toList == ws[k].toList) with
          | some m => exact ⟨m, rfl⟩
          | none =>
            rw [List.findIdx?_eq_none_iff] at hc
            have := hc ws[k] (List.getElem_mem h)
            simp at this
        obtain ⟨m, hm⟩ := this
        refine ⟨m, hm, ?_⟩
        rw [List.findIdx?_eq_some_iff_getElem] at hm
        obtain ⟨hm1, hm2, hm3⟩ := hm
        rcases Nat.lt_or_ge j m with g | g
        · have := hm3 j g
          rw [he] at this
          simp at this
        · exact g
      obtain ⟨m, hm, hmj⟩ := hf
      unfold idxW at e
      rw [hm] at e
      simp at e
      omega
    simpa using hne
  | false =>
    have : idxW ws ws[k] = k := idxW_at h (fun j hj hjk => by
      unfold hasW at hh
      rw [List.any_eq_false] at hh
      have := hh ws[j] (by rw [List.mem_iff_getElem]; exact ⟨j, by rw [List.length_take]; omega, by rw [List.getElem_take]⟩)
      simpa using this) (by simp)
    rw [this]
    simp
theorem Line.step {w w' : World} {base L M n : Nat} {F : List UInt8 → Int} {so : Option Addr} {cp : Nat} {xs : List ByteArray} (h : Line w base L M n F so cp xs) (hb : Below w.heap.size w w') : Line w' base L M n F so cp xs := by
  have hL := Nat.lt_of_lt_of_le h.lL h.bw
  have hM := Nat.lt_of_lt_of_le h.lM h.bw
  exact ⟨h.lL, h.lM, h.ne, Nat.le_trans h.bw hb.size, (hb.cell (p := ⟨L, 0, none⟩) hL).trans h.c0, h.mm.block (hb.block M hM), (hb.cell (p := ⟨L, 1, none⟩) hL).trans h.c1, (hb.frozen (p := ⟨L, 1, none⟩) hL).trans h.fz, World.ownsRow.kept h.row (gr_below hb none) (by
    cases hc : (Value.slice so xs.length cp).ownBlock with
    | none => exact .inl rfl
    | some k => exact .inr (by simp)), h.hp⟩

set_option maxRecDepth 100000 in
set_option maxHeartbeats 2000000 in
theorem wait_any (base L M n : Nat) (F : List UInt8 → Int) (so : Option Addr) (cp : Nat) (xs : List ByteArray) (lo : Nat) (v : Value) (g : TG) (w : World) (h : Line w base L M n F so cp xs) (hx : xs.length ≤ 7) (hn : n < 900) (hg : IsGn w lo w.heap.size v g) (hu : g.uses.length ≤ 4) :
    Calls Try.prog 32 #[.pointer (some ⟨L, 0, none⟩), v] w fun r w' => r = .returned (.tuple #[]) ∧ ∃ zs : List ByteArray, zs.Perm (if cntU [] g.uses = 0 then xs ++ [g.name] else xs) ∧ Turned w w' base L M (n + 1) (setF F g.name.toList (cntU [] g.uses)) so cp xs.length zs := by
  obtain ⟨nm, uses⟩ := g
  obtain ⟨aa, ca, rfl, ⟨hs1, hs2, hs3⟩, hw⟩ := hg
  dsimp only at hu hs1 hs2 hw ⊢
  have hCle := cntU_le [] uses
  obtain ⟨C, hC⟩ : ∃ C, cntU [] uses = C := ⟨_, rfl⟩
  rw [hC] at hCle ⊢
  have HC := hide hC
  obtain ⟨T, hT⟩ : ∃ T, (if C = 0 then xs ++ [nm] else xs) = T := ⟨_, rfl⟩
  rw [hT]
  have HT := hide hT
  obtain ⟨F', hF'⟩ : ∃ F', setF F nm.toList (C : Int) = F' := ⟨_, rfl⟩
  rw [hF']
  have HF' := hide hF'
  obtain ⟨W, hW⟩ : ∃ W, W = w.alloc (.cells #[.string nm, .slice aa uses.length ca] 30) := ⟨_, rfl⟩
  have bW : Below w.heap.size w W := by rw [hW]; exact (Below.refl _ _).alloc (Nat.le_refl _) _
  have sW : W.heap.size = w.heap.size + 1 := by rw [hW]; simp
  have kW : Blk W w.heap.size [.string nm, .slice aa uses.length ca] := by rw [hW]; exact Blk.new w _ _
  have HLI := hide (fun W' (hb : Below W.heap.size W W') => (h.step bW).step hb)
  have HUS := hide (fun W' (hb : Below W.heap.size W W') => ((hw.kept bW bW.size).kept hb hb.size : IsWds W' lo W'.heap.size aa uses))
  have HBM : Hid (M < w.heap.size) := hide (Nat.lt_of_lt_of_le h.lM h.bw)
  have HBW := hide bW
  have HSW := hide sW
  have HKW := hide kW
  have HS2 := hide hs2
  obtain ⟨UL, hUL⟩ : ∃ UL, uses.length = UL := ⟨_, rfl⟩
  have HUL := hide hUL
  rw [hUL] at hu hCle HKW hW ⊢
  clear h hw bW sW kW hs2 hs3 hUL hC hT hF'
  go_enter Try.func32, Try.ntmps32
  go_wp2
  rw [← hW]
  clear hW
  go_loopw [4, 5, 6, 10] (fun cv _ _ i wr => ∃ k c : Nat, k ≤ UL ∧ i = .int .i64 k ∧ cv = .int .i64 c ∧ c ≤ k ∧ Hid (c + cntU (uses.take k) (uses.drop k) = C) ∧ Hid (Below W.heap.size W wr)) (fun _ _ _ i _ => UL - (intOf i).toNat)
  case atStart => exact ⟨0, 0, Nat.zero_le _, rfl, rfl, Nat.le_refl _, hide (by rw [Nat.zero_add]; exact unhide HC), hide (Below.refl _ _)⟩
  case round =>
    obtain ⟨k, c, hk, rfl, rfl, hck, HS, HB⟩ := hrel
    have kr := (unhide HKW).below (unhide HB) (by rw [unhide HSW]; omega)
    have n0 := kr.cellAt (i := 0) rfl
    have n1 := kr.cellAt (i := 1) rfl
    clear kr
    by_cases hp : k < UL
    · have hpu : k < uses.length := by rw [unhide HUL]; exact hp
      have hst := cntU_step uses k hpu
      have hfi := idxW_first hpu
      have hin := indexW_any lo aa ca uses uses[k] wr (unhide HUS wr (unhide HB)) (unhide HS2)
      rcases unhide HUS wr (unhide HB) with hq | ⟨b, off, rfl, hbl, hbn, hcs⟩
      · rw [hq] at hpu; simp at hpu
      have hcc := hcs k hpu
      obtain ⟨u, hu1⟩ : ∃ u, uses[k] = u := ⟨_, rfl⟩
      rw [hu1] at hst hfi hin hcc
      rw [unhide HUL] at hin
      obtain ⟨hb', hhb⟩ : ∃ t, hasW (uses.take k) u = t := ⟨_, rfl⟩
      rw [hhb] at hst hfi
      obtain ⟨ix, hix⟩ : ∃ t, idxW uses u = t := ⟨_, rfl⟩
      rw [hix] at hfi hin
      have HIN := hide hin
      have HST := hide hst
      clear hcs hst hin hu1 hhb hix
      go_wp2_with fail
      refine (unhide HIN).mono ?_
      rintro r w2 ⟨rfl, hb2⟩
      have HB2 := hide ((unhide HB).trans (hb2.mono (unhide HB).size))
      clear hb2 HIN
      cases hb' with
      | true =>
        have hf2 : (ix == (k : Int)) = false := hfi
        go_wp2
        go_roundw
        case rel => exact ⟨k + 1, c, by omega, by go_num, by go_num, by omega, hide (by have := unhide HS; have := unhide HST; simp at this; omega), HB2⟩
        case measure => simp [intOf]; omega
      | false =>
        have hf2 : (ix == (k : Int)) = true := hfi
        go_wp2
        go_roundw
        case rel => exact ⟨k + 1, c + 1, by omega, by go_num, by go_num, by omega, hide (by have := unhide HS; have := unhide HST; simp at this; omega), HB2⟩
        case measure => simp [intOf]; omega
    · have hcC : c = C := by
        have := unhide HS
        rw [List.drop_eq_nil_of_le (by rw [unhide HUL]; omega)] at this
        simpa [cntU] using this
      subst hcC
      have lr := unhide HLI wr.drew (unhide HB).drew
      obtain ⟨w1, r1, l1, g1⟩ := lr.put (by omega) nm hs1 (c : Int) (by simp [Lit.wf, IntKind.min, IntKind.max, IntKind.signed, IntKind.bits]; omega)
      have c0 : wr.cell? ⟨L, 0, none⟩ = some (.map (some M)) := (unhide HLI wr (unhide HB)).c0
      have hsf : setF F nm.toList (c : Int) nm.toList = (c : Int) := by simp [setF]
      have hfr := free_line base L M (n + 1) _ so cp xs nm hs1 w1 l1 hx
      rw [hsf, unhide HF'] at hfr
      have HFR := hide hfr
      have m0 : w1.cell? ⟨w.heap.size, 0, none⟩ = some (.string nm) := (World.cell?_of_block (w := wr.drew) (a := ⟨w.heap.size, 0, none⟩) (g1.block w.heap.size (Nat.lt_of_lt_of_le (by rw [unhide HSW]; omega) (unhide HB).size) (fun e => by have := Option.some.inj e; have := unhide HBM; omega))).trans n0
      have HG : Hid (LK w w1 L M (Value.slice so xs.length cp).ownBlock) := hide (by
        have hb := (unhide HBW).trans (((unhide HB).drew).mono (by rw [unhide HSW]; omega))
        have k1 : LK w wr.drew L M (Value.slice so xs.length cp).ownBlock := ⟨hb.os, hb.tape, hb.output, hb.size, fun b hbb _ _ _ => hb.block b hbb⟩
        exact k1.trans (LK.map g1) (.inl rfl))
      have HSZ : Hid (w.heap.size ≤ w1.heap.size) := hide (Nat.le_trans (Nat.le_trans (unhide HBW).size (unhide HB).drew.size) g1.size)
      clear hfr l1 g1 lr hsf
      go_wp2
      go_region
      go_wp2_with fail
      refine (unhide HFR).mono ?_
      rintro r w2 ⟨rfl, zs, hp2, so', cp', k1, k2, k3⟩
      have HZ : Hid (∃ zs : List ByteArray, zs.Perm T ∧ Turned w w2 base L M (n + 1) F' so cp xs.length zs) := hide (by
        refine ⟨zs, ?_, so', cp', k1, ?_, (unhide HG).trans k3 (.inl rfl)⟩
        · rw [← unhide HT]
          by_cases e : c = 0
          · rw [if_pos e]; rw [if_pos (by omega)] at hp2; exact hp2
          · rw [if_neg e]; rw [if_neg (by omega)] at hp2; exact hp2
        · rcases k2 with e | ⟨H, e, hH⟩
          · exact .inl e
          · exact .inr ⟨H, e, Nat.le_trans (unhide HSZ) hH⟩)
      clear hp2 k1 k2 k3 HFR
      go_wp2
      go_end0
      exact ⟨rfl, unhide HZ⟩
end Go.Proofs.Ytgdeehldpmfpgaa
