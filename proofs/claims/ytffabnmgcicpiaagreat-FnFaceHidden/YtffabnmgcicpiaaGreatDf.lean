/- The walk of a generator's call. Conditions: the generator and the variables can be read. -/
import Derived.Test.YtffabnmgcicpiaaGreatDe
namespace Go.Proofs.YtffabnmgcicpiaaGreat
open Go.RowKit Go.PlainAid

theorem IsInts.offB {B : Nat} {w : World} {aa : Option Addr} {zs : List Int} (h : KpD (fun b => b ≠ B) w (fun W => IsInts W 0 W.heap.size aa zs)) : ∀ b off : Nat, aa = some ⟨b, off, none⟩ → zs = [] ∨ (b ≠ B ∧ b < w.heap.size) := by
  intro b off e
  by_cases hz : zs = []
  · exact .inl hz
  have hpos : 0 < zs.length := List.length_pos_iff.2 hz
  rcases h.now with h0 | ⟨b', off', h1, _, h2, h3⟩
  · exact absurd h0 hz
  rw [e] at h1
  cases h1
  refine .inr ⟨fun eB => ?_, h2⟩
  subst eB
  rcases h (w.setCell ⟨b, off, none⟩ (.bool true)) ((StayD.refl _ w).set b off _ (fun _ h => h rfl)) with g | ⟨b2, off2, g1, _, _, g3⟩
  · exact absurd g hz
  rw [e] at g1
  cases g1
  have k1 := g3 0 hpos
  have k2 := h3 0 hpos
  rw [Nat.add_zero] at k1 k2
  rw [cell_same _ _ _ _ (by rw [k2]; rfl)] at k1
  cases k1

set_option maxRecDepth 100000 in
set_option maxHeartbeats 8000000 in
theorem call_of (d : Nat) (IH : ExprD d) (B G : Nat) (a : Option Addr) (len cap : Nat) (sa : Option Addr) (sc : Nat) (ss : List (SG × List Value)) (t : Int) (va : Option Addr) (vc : Nat) (vars : List TA) (w : World) (p : Nat)
    (hg : GenD B G a len cap sa sc ss w p) (hss : (∀ s ∈ ss, SgOk s.1) ∧ ss.length ≤ 1000) (hp : p + 11 + 80 * 5 ^ d ≤ 900000000000) (hv : KeepV B w va vars) (hvl : vars.length + d ≤ 900) (hvn : ∀ x ∈ vars, x.name.size ≤ 8) :
    Calls Tryz.prog 63 #[.pointer (some ⟨G, 0, none⟩), .int .i64 t, .slice va vars.length vc, .int .i64 (((d + 1 : Nat) : Int))] w fun r w' => ∃ (v : Value) (e : TE) (q : Nat), r = .returned v ∧ KeepE (fun b => w.heap.size ≤ b) (d + 3) w' v e ∧ e.wt ≤ 20 + 96 * 5 ^ d ∧ RdM B a len cap (11 + 80 * 5 ^ d) w w' p q := by
  have hsl := hss.2
  have HBW := hide hg.hB
  have hGw := hg.hG
  have c0 := hg.c0
  have c1 := hg.c1
  obtain ⟨W1, hW1⟩ : ∃ W1, W1 = w.alloc (.cells #[.int .i64 0, .int .i64 0, .string ⟨#[]⟩, .string ⟨#[]⟩, .slice none 0 0] 31) := ⟨_, rfl⟩
  have hrd0 : RdM B a len cap 0 w W1 p p := by rw [hW1]; exact (RdM.refl hg.rd).alloc hg.hB _
  have hblk : Blk W1 w.heap.size [.int .i64 0, .int .i64 0, .string ⟨#[]⟩, .string ⟨#[]⟩, .slice none 0 0] := by rw [hW1]; exact Blk.new w [.int .i64 0, .int .i64 0, .string ⟨#[]⟩, .string ⟨#[]⟩, .slice none 0 0] 31
  have hs1 : W1.heap.size = w.heap.size + 1 := by rw [hW1]; simp
  have HS1 := hide hs1
  have HG := hide (hg.step hrd0)
  have HV := hide (KeepV.step hv hrd0)
  have HR0 := hide hrd0
  have HBK := hide hblk
  have HVN := hide hvn
  have HSS := hide hss
  have HPR := hide (fun (W : World) (q : Nat) (h1 : GenD B G a len cap sa sc ss W q) (h2 : q + 10 + 60 * 5 ^ d ≤ 900000000000) (h3 : KeepV B W va vars) => prim_of d IH B G a len cap sa sc ss t va vc vars W q h1 hss h2 h3 hvl hvn)
  obtain ⟨N, hN⟩ : ∃ N, 5 ^ d = N := ⟨_, rfl⟩
  have hIH := IH
  unfold ExprD at hIH
  rw [hN] at hp hIH HPR ⊢
  have HIH := hide hIH
  have HPOS : Hid (0 < N) := hide (by rw [← hN]; exact Nat.pow_pos (by omega))
  have hMW : w.heap.size < W1.heap.size := by omega
  clear hg hv hvn hss IH hN hIH hrd0 hblk hs1
  by_cases hn : 0 < ss.length
  case neg =>
    have hn0 : ss.length = 0 := by omega
    have HP0 := hide (unhide HPR W1 p (unhide HG) (by omega) (unhide HV))
    have q0 := (unhide HBK).cellAt (i := 0) rfl
    go_enter Tryz.func63, Tryz.ntmps63
    go_wp2
    rw [← hW1]
    clear hW1 c0 c1 hGw
    refine wp_loop_rounds 1 ?_
    rw [rounds_succ]
    go_wp2_with fail
    refine (unhide HP0).mono ?_
    rintro r w4 ⟨v, e, q4, rfl, hke, hwe, hk4⟩
    obtain ⟨k1, m1, nm1, md1, a1, l1, c1, rfl⟩ := IsE.five hke.now
    have HBM := hide ((unhide HBK).ofb (hk4.mv.2 w.heap.size hMW (by have := unhide HBW; omega)))
    have HKE := hide hke
    have HWE := hide hwe
    have HK4 := hide hk4
    have q0 := (unhide HBM).cellAt (i := 0) rfl
    have q1 := (unhide HBM).cellAt (i := 1) rfl
    have q2' := (unhide HBM).cellAt (i := 2) rfl
    have q3 := (unhide HBM).cellAt (i := 3) rfl
    have q4' := (unhide HBM).cellAt (i := 4) rfl
    have f0 := (unhide HBM).2 0
    have f1 := (unhide HBM).2 1
    have f2 := (unhide HBM).2 2
    have f3 := (unhide HBM).2 3
    have f4 := (unhide HBM).2 4
    clear hke hwe hk4 HP0
    go_wp2
    have hst := ((((((StayD.refl (fun b => W1.heap.size ≤ b) w4).set w.heap.size 0 (.int .i64 k1) (fun _ h => by (try dsimp only at h); omega)).set w.heap.size 1 (.int .i64 m1) (fun _ h => by (try dsimp only at h); omega)).set w.heap.size 2 (.string nm1) (fun _ h => by (try dsimp only at h); omega)).set w.heap.size 3 (.string md1) (fun _ h => by (try dsimp only at h); omega)).set w.heap.size 4 (.slice a1 l1 c1) (fun _ h => by (try dsimp only at h); omega))
    have hn := (((((((((((unhide HBM)).set 0 (.int .i64 k1) (by simp))).set 1 (.int .i64 m1) (by simp))).set 2 (.string nm1) (by simp))).set 3 (.string md1) (by simp))).set 4 (.slice a1 l1 c1) (by simp))
    have hK := ((((((((((((unhide HR0).trans (unhide HK4))).set (unhide HBW) w.heap.size 0 (.int .i64 k1) (by omega))).set (unhide HBW) w.heap.size 1 (.int .i64 m1) (by omega))).set (unhide HBW) w.heap.size 2 (.string nm1) (by omega))).set (unhide HBW) w.heap.size 3 (.string md1) (by omega))).set (unhide HBW) w.heap.size 4 (.slice a1 l1 c1) (by omega))
    obtain ⟨FW, hF⟩ : ∃ FW, FW = (((((w4.setCell ⟨w.heap.size, 0, none⟩ (.int .i64 k1)).setCell ⟨w.heap.size, 1, none⟩ (.int .i64 m1)).setCell ⟨w.heap.size, 2, none⟩ (.string nm1)).setCell ⟨w.heap.size, 3, none⟩ (.string md1)).setCell ⟨w.heap.size, 4, none⟩ (.slice a1 l1 c1)) := ⟨_, rfl⟩
    rw [← hF] at hst hn hK ⊢
    have g0 := hn.cellAt (i := 0) rfl
    have g1 := hn.cellAt (i := 1) rfl
    have g2 := hn.cellAt (i := 2) rfl
    have g3 := hn.cellAt (i := 3) rfl
    have g4 := hn.cellAt (i := 4) rfl
    refine bodyPost_ret (v := .agg #[.int .i64 k1, .int .i64 m1, .string nm1, .string md1, .slice a1 l1 c1]) (by simp [results, Tryz.results63, go_sem, g0, g1, g2, g3, g4]) rfl ?_
    exact ⟨_, e, _, rfl, ((unhide HKE).stay hst).less (fun b _ h => by have h9 : W1.heap.size ≤ b := h; omega), Nat.le_trans (unhide HWE) (by omega), hK.more (by omega)⟩
  case pos =>
    have HPK := hide (pick_rd B a len cap p (ss.length : Int) W1 (unhide HG).rd (by omega) (by omega))
    go_enter Tryz.func63, Tryz.ntmps63
    go_wp2_with fail
    rw [← hW1]
    clear hW1
    refine (unhide HPK).mono ?_
    rintro r w2 ⟨i, rfl, i0, i1, hk2, -⟩
    have i2 := i1 (by omega)
    obtain ⟨at', rfl⟩ := Int.eq_ofNat_of_zero_le i0
    have HR2 := hide hk2
    have hat : at' < ss.length := by omega
    clear i1 i0 i2 HPK hk2 c0 c1 hGw
    go_wp2
    go_loopw [11] (fun v wq => ∃ (k q : Nat), v = .int .i64 k ∧ k ≤ ss.length ∧ Hid (RdM B a len cap 1 W1 wq p q)) (fun v _ => ss.length - (intOf v).toNat)
    case atStart => exact ⟨0, _, rfl, Nat.zero_le _, HR2⟩
    case round =>
      clear HR2
      obtain ⟨k, q, rfl, hk, HR3⟩ := hrel
      have hg3 := (unhide HG).step (unhide HR3)
      have hq3 : q ≤ p + 1 := (unhide HR3).le
      have c0 := hg3.c0
      have c1 := hg3.c1
      have hGr := hg3.hG
      have HB3 := hide ((unhide HBK).ofb ((unhide HR3).mv.2 w.heap.size hMW (by have := unhide HBW; omega)))
      have hMr : w.heap.size < wr.heap.size := Nat.lt_of_lt_of_le hMW (unhide HR3).size
      by_cases hp3 : k < ss.length
      · have hidx : (at' + k) % ss.length < ss.length := Nat.mod_lt _ hn
        obtain ⟨X, hX⟩ : ∃ X, (at' + k) % ss.length = X := ⟨_, rfl⟩
        rw [hX] at hidx
        rcases hg3.sg.now with hq0 | ⟨g, rfl, hgl, hcs⟩
        · rw [hq0] at hn; simp at hn
        obtain ⟨hc, _, aa, ca, hC, hints⟩ := hcs X hidx
        have hso := (unhide HSS).1 _ (List.getElem_mem hidx)
        obtain ⟨s, hs⟩ : ∃ s, (ss[X]'hidx).1 = s := ⟨_, rfl⟩
        rw [hs] at hC hints hso
        rw [hC] at hc
        have d0 : wr.cell? ⟨g, X * 4, none⟩ = some (.string s.mod) := by have := hc 0 (by omega); simpa using this
        have d1 : wr.cell? ⟨g, X * 4 + 1, none⟩ = some (.string s.name) := by have := hc 1 (by omega); simpa using this
        have d2 : wr.cell? ⟨g, X * 4 + 2, none⟩ = some (.slice aa s.args.length ca) := by have := hc 2 (by omega); simpa using this
        have d3 : wr.cell? ⟨g, X * 4 + 3, none⟩ = some (.int .i64 s.t) := by have := hc 3 (by omega); simpa using this
        have HX := hide hX
        obtain ⟨smod, sname, sargs, st⟩ := s
        dsimp only at d0 d1 d2 d3 hints hso
        have HINT : Hid (KpD (fun b => b ≠ B) wr (fun W => IsInts W 0 W.heap.size aa sargs)) := hide (hg3.sg.imp (fun W hr => by
          rcases hr with h | ⟨g', _, _, h⟩
          · rw [h] at hn; simp at hn
          · obtain ⟨_, _, aa', ca', e, hi⟩ := h X hidx
            rw [hs] at e hi
            rw [hC] at e
            simp only [List.cons.injEq, Value.slice.injEq, and_true] at e
            obtain ⟨-, -, ⟨rfl, -, -⟩, -⟩ := e
            exact hi))
        have hwlt := IsInts.offB (unhide HINT)
        have HWL := hide hwlt
        have HSO := hide hso
        clear hc hC hs hcs hints hso hg3 hX
        rw [← unhide HX] at d0 d1 d2 d3
        have hz0 : 0 ≤ ((at' : Int) + (k : Int)) % (ss.length : Int) := Int.emod_nonneg _ (by omega)
        have hz1 : ((at' : Int) + (k : Int)) % (ss.length : Int) < (ss.length : Int) := Int.emod_lt_of_pos _ (by omega)
        have hidx : (at' + k) % ss.length < ss.length := Nat.mod_lt _ hn
        go_wp2_with fail
        go_region
        obtain ⟨SB, hSB⟩ : ∃ SB, wr.heap.size = SB := ⟨_, rfl⟩
        obtain ⟨W3, hW3⟩ : ∃ W3, W3 = (wr.alloc (.cells #[.string smod, .string sname, .slice aa sargs.length ca, .int .i64 st] 102)).drew := ⟨_, rfl⟩
        have HR4 : Hid (RdM B a len cap 1 W1 W3 p q) := hide (by rw [hW3]; exact ((unhide HR3).alloc (unhide HG).hB _).drew)
        have hbs : Blk W3 SB [.string smod, .string sname, .slice aa sargs.length ca, .int .i64 st] := by rw [hW3, ← hSB]; exact Blk.new wr [.string smod, .string sname, .slice aa sargs.length ca, .int .i64 st] 102
        have HI4 : Hid (KpD (fun b => b ≠ B) W3 (fun W => IsInts W 0 W.heap.size aa sargs)) := hide ((unhide HINT).stay (by rw [hW3]; exact ((StayD.refl _ wr).alloc _).drew))
        have HB4 : Hid (Blk W3 w.heap.size [.int .i64 0, .int .i64 0, .string ⟨#[]⟩, .string ⟨#[]⟩, .slice none 0 0]) := hide ((unhide HBK).ofb ((unhide HR4).mv.2 w.heap.size hMW (by have := unhide HBW; omega)))
        have hs3 : W3.heap.size = SB + 1 := by rw [hW3, ← hSB]; show (wr.alloc _).heap.size = _; simp
        have HS3 := hide hs3
        have HSBG : Hid (W1.heap.size ≤ SB ∧ B < SB) := hide (by have h1 := (unhide HR3).size; have h2 := (unhide HG).hB; omega)
        have s0 := hbs.cellAt (i := 0) rfl
        have s1 := hbs.cellAt (i := 1) rfl
        have s2 := hbs.cellAt (i := 2) rfl
        have s3 := hbs.cellAt (i := 3) rfl
        have HBS := hide hbs
        rw [hSB] at HWL
        rw [hSB, ← hW3]
        clear hW3 hbs hs3 d0 d1 d2 d3 c0 c1 HINT HR3 HB3 hidx hz0 hz1 hgl hMr hGr hSB
        by_cases hst : st = t
        case neg =>
          have e1 : (st != t) = true := by simpa using hst
          go_wp2
          go_roundw
          case rel => exact ⟨k + 1, q, by go_num, by omega, HR4⟩
          case measure => simp [intOf]; omega
        case pos =>
          have hst2 := hst.symm
          clear hst
          subst hst2
          have e1 : (t != t) = false := by simp
          obtain ⟨h8, h8', h4⟩ := unhide HSO
          dsimp only at h8 h8' h4
          have hSW : SB < W3.heap.size := by rw [unhide HS3]; omega
          obtain ⟨E, hE⟩ : ∃ E, W3.heap.size = E := ⟨_, rfl⟩
          have HEe := hide hE
          obtain ⟨w4, hw4⟩ : ∃ w4, w4 = W3.alloc (.cells #[.int .i64 7, .int .i64 0, .string sname, .string smod, .slice none 0 0] 31) := ⟨_, rfl⟩
          have HR5 : Hid (RdM B a len cap 1 W1 w4 p q) := hide (by rw [hw4]; exact (unhide HR4).alloc (unhide HG).hB _)
          have HBE : Hid (Blk w4 E [.int .i64 7, .int .i64 0, .string sname, .string smod, .slice none 0 0]) := hide (by rw [hw4, ← hE]; exact Blk.new W3 [.int .i64 7, .int .i64 0, .string sname, .string smod, .slice none 0 0] 31)
          have HC2 : Hid (w4.cell? ⟨SB, 2, none⟩ = some (.slice aa sargs.length ca)) := hide (by rw [hw4]; exact (below_one W3 _).cell (p := ⟨SB, 2, none⟩) hSW |>.trans s2)
          obtain ⟨lo, hlo⟩ : ∃ lo, lo = w4.heap.size := ⟨_, rfl⟩
          have HLO : Hid (E + 1 = lo ∧ lo = w4.heap.size) := hide ⟨by rw [hlo, hw4, alloc_size, hE], hlo⟩
          have HWLT : Hid (∀ b off : Nat, aa = some ⟨b, off, none⟩ → sargs = [] ∨ (b ≠ B ∧ b < SB)) := hide (unhide HWL)
          have HFX : Hid (B < SB ∧ SB + 1 = E ∧ E + 1 = lo ∧ W1.heap.size ≤ SB) := hide (by have h1 := (unhide HLO).1; have h2 := unhide HSBG; have h3 := unhide HS3; have h4 := unhide HEe; omega)
          have KW : Hid (KpD (fun b => b ≠ B ∧ b < lo ∧ b ≠ E) w4 (fun W => IsInts W 0 W.heap.size aa sargs)) := hide (((unhide HI4).less (fun b hb h => by have := (unhide HLO).1; exact ⟨h, by omega, by omega⟩)).stay (by rw [hw4]; exact (StayD.refl _ W3).alloc _))
          have HO4 := hide ((OwnD.nil (EltE (d + 2)) 5 31 (fun b => lo ≤ b) lo w4))
          have HS4 : Hid (lo ≤ w4.heap.size) := hide (by omega)
          obtain ⟨T, hT⟩ : ∃ T, 20 * N = T := ⟨_, rfl⟩
          have HTT := hide hT
          clear hlo hT HR4 HB4 HBS s2
          go_wp2
          rw [← hw4]
          clear hw4 hE
          go_loopw [14] (fun v wq => ∃ (k q2 : Nat) (ps : List (TE × List Value)) (sa2 : Option Addr) (sc2 : Nat), v = .int .i64 k ∧ k ≤ sargs.length ∧ Hid (ps.length = k) ∧ Hid (RdM B a len cap (1 + k * T) W1 wq p q2) ∧ Hid (Blk wq E [.int .i64 7, .int .i64 0, .string sname, .string smod, .slice sa2 ps.length sc2]) ∧ Hid (OwnD (EltE (d + 2)) 5 31 (fun b => lo ≤ b) lo wq (.slice sa2 ps.length sc2) ps) ∧ Hid (lo ≤ wq.heap.size) ∧ Hid (KpD (fun b => b ≠ B ∧ b < lo ∧ b ≠ E) wq (fun W => IsInts W 0 W.heap.size aa sargs)) ∧ Hid (∀ x ∈ ps, x.1.wt ≤ 24 * N) ∧ Hid (wq.cell? ⟨SB, 2, none⟩ = some (.slice aa sargs.length ca))) (fun v _ => sargs.length - (intOf v).toNat)
          case atStart => exact ⟨0, _, [], none, 0, rfl, Nat.zero_le _, hide rfl, hide ((unhide HR5).more (by omega)), HBE, HO4, HS4, KW, hide (fun x hx => absurd hx List.not_mem_nil), HC2⟩
          case round =>
            clear HR5 HBE HO4 HS4 KW HC2
            obtain ⟨k, q2, ps, sa2, sc2, rfl, hk, HLE, HR5, HB5, HO5, HS5, KW, HWT, HC2⟩ := hrel
            have hkT : k * T ≤ 4 * T := Nat.mul_le_mul_right T (by omega)
            have hq2 : q2 ≤ p + 1 + k * T := by have := (unhide HR5).le; omega
            have hGr := ((unhide HG).step (unhide HR5)).hG
            have e4 := (unhide HB5).cellAt (i := 4) rfl
            by_cases hp2 : k < sargs.length
            · rcases (unhide KW).now with hq0 | ⟨wb, woff, rfl, _, hwb, hwc⟩
              · rw [hq0] at hp2; simp at hp2
              have ck := hwc k hp2
              obtain ⟨tk, htk⟩ : ∃ tk, sargs[k]'hp2 = tk := ⟨_, rfl⟩
              rw [htk] at ck
              have hkT1 : (k + 1) * T ≤ 4 * T := Nat.mul_le_mul_right T (by omega)
              have hkT2 : (k + 1) * T = k * T + T := Nat.succ_mul k T
              have HKT := hide hkT2
              have hqT : q2 + T ≤ p + 1 + 4 * T := by omega
              have HEX := hide (unhide HIH B G a len cap (some ⟨g, 0, none⟩) sc ss tk va vc vars wr.drew q2 ((unhide HG).step (unhide HR5).drew) (unhide HSS) (by have := unhide HTT; omega) (KeepV.step (unhide HV) (unhide HR5).drew) hvl (unhide HVN))
              have HWR : IntKind.i64.wrap (d : Int) = (d : Int) := by rw [IntKind.wrap_i64]; omega
              rw [← HWR] at HEX
              have HOWN := hide (fun (g : Nat) (hg : (Value.slice sa2 ps.length sc2).ownBlock = some g) => ((unhide HO5).row.lt g hg).2)
              have c2 := unhide HC2
              have hwbl : wb < lo ∧ wb ≠ B ∧ wb ≠ E := by
                rcases unhide HWLT wb woff rfl with h | h
                · rw [h] at hp2; simp at hp2
                · have := unhide HFX; omega
              obtain ⟨hwbl, hwbB, hwbE⟩ := hwbl
              have hSBr : SB < wr.heap.size := by have := unhide HFX; have := unhide HS5; omega
              clear htk hkT2 HWR hwc
              go_wp2
              go_region_law (first
                | (refine step_runD rfl (.tmp 61) (.tmp 72) 25 rfl rfl (.slice sa2 ps.length sc2) (.slice (some ⟨w3.heap.size, 0, none⟩) 1 1) rfl rfl (.slice (some ⟨g5, 0, none⟩) (ps.length + 1) c5) w5 (by exact r5) ?_)
                | (go_simp; refine (unhide HEX).mono ?_; rintro r w3 ⟨v, e, q3, rfl, hke, hwe, hk3⟩; have z3 : StayD (fun b => b ≠ B) wr w3 := hk3.mv.stay (fun _ h => h); obtain ⟨k1, m1, nm1, md1, a1, l1, c1, rfl⟩ := IsE.five hke.now; have hb3 : Blk w3 E [.int .i64 7, .int .i64 0, .string sname, .string smod, .slice sa2 ps.length sc2] := (unhide HB5).ofb (z3.2 E (by have := unhide HS5; have := unhide HFX; omega) (by have := unhide HFX; omega)); obtain ⟨g5, c5, w5, r5, o5, b5, k5, s5, y5⟩ := kidsPush ((unhide HO5).stay (z3.less (fun b _ h => by have h9 : lo ≤ b := h; have := unhide HFX; have := unhide HFX; omega)) (fun _ h => h)) (Nat.le_trans (unhide HS5) hk3.size) (by have := unhide HFX; omega) hb3 ((unhide HR5).drew.trans hk3) (unhide HG).hB (by have := unhide HFX; have := unhide HFX; omega) (by have := unhide HLE; omega) k1 m1 nm1 md1 a1 l1 c1 e (hke.less (fun b _ hb => by have h1 : wr.heap.size ≤ b := hb; exact ⟨by have := unhide HS5; omega, fun h2 => by have := unhide HOWN b h2.symm; omega⟩)); have e4' := hb3.cellAt (i := 4) rfl; have c2' : w3.cell? ⟨SB, 2, none⟩ = some (.slice (some ⟨wb, woff, none⟩) sargs.length ca) := (World.cell?_of_block (w := wr) (a := ⟨SB, 2, none⟩) (z3.2 SB hSBr (by have := unhide HFX; omega))).trans c2; have ck' : w3.cell? ⟨wb, woff + k, none⟩ = some (.int .i64 tk) := (World.cell?_of_block (w := wr) (a := ⟨wb, woff + k, none⟩) (z3.2 wb hwb hwbB)).trans ck; have q4 := b5.cellAt (i := 4) rfl; have f4 := b5.2 4; have HB6 := hide b5; have HK6 := hide k5; have HO6 := hide o5; have HS6 := hide s5; have hEl : E < w3.heap.size := Nat.lt_of_lt_of_le (Nat.lt_of_lt_of_le (Nat.lt_of_lt_of_le (Nat.lt_succ_self E) (Nat.le_of_eq (unhide HFX).2.2.1)) (unhide HS5)) hk3.size; have KW3 := hide ((unhide KW).stay (z3.less (fun _ _ h => h.1))); have HWE := hide hwe; have HZ5 := hide y5; have HC6 : Hid (w5.cell? ⟨SB, 2, none⟩ = some (.slice (some ⟨wb, woff, none⟩) sargs.length ca)) := hide ((World.cell?_of_block (w := w3) (a := ⟨SB, 2, none⟩) (y5.2 SB (Nat.lt_of_lt_of_le hSBr hk3.size) (by have := unhide HFX; omega))).trans c2'); clear hke hwe hk3 b5 k5 o5 s5 y5 hb3 z3))
              all_goals
                go_wp2
                go_roundw
                case rel =>
                  exact ⟨k + 1, q3, ps ++ [(e, [.int .i64 k1, .int .i64 m1, .string nm1, .string md1, .slice a1 l1 c1])], some ⟨g5, 0, none⟩, c5, by go_num, by omega, hide (by simp; exact unhide HLE), hide ((((unhide HK6).set (unhide HG).hB E 4 (.slice (some ⟨g5, 0, none⟩) (ps.length + 1) c5) (by have := unhide HFX;   omega)).more (by have := unhide HKT; have := unhide HTT; omega))), hide (by simpa using (unhide HB6).set 4 (.slice (some ⟨g5, 0, none⟩) (ps.length + 1) c5) (by simp)), hide (by simpa using (unhide HO6).stay ((StayD.refl _ _).set E 4 _ (fun _ h => by have := unhide HFX; omega)) (fun _ h => h)), hide (by simpa [World.setCell] using unhide HS6), hide (((unhide KW3).stay ((unhide HZ5).less (fun _ _ h => h.2.1))).stay ((StayD.refl _ _).set E 4 _ (fun _ h => h.2.2 rfl))), hide (fun y hy => by rcases List.mem_append.1 hy with hy | hy; exact unhide HWT y hy; rw [List.mem_singleton] at hy; subst hy; exact unhide HWE), hide ((World.cell?_setCell_other w5 ⟨E, 4, none⟩ ⟨SB, 2, none⟩ _ (by simp)).trans (unhide HC6))⟩
                case measure => simp [intOf]; omega
            · obtain rfl : k = sargs.length := by omega
              have c2 := unhide HC2
              have HBM := hide ((unhide HBK).ofb ((unhide HR5).mv.2 w.heap.size hMW (by have := unhide HBW; omega)))
              have q0 := (unhide HBM).cellAt (i := 0) rfl
              have q1 := (unhide HBM).cellAt (i := 1) rfl
              have q2' := (unhide HBM).cellAt (i := 2) rfl
              have q3 := (unhide HBM).cellAt (i := 3) rfl
              have q4 := (unhide HBM).cellAt (i := 4) rfl
              have f0 := (unhide HBM).2 0
              have f1 := (unhide HBM).2 1
              have f2 := (unhide HBM).2 2
              have f3 := (unhide HBM).2 3
              have f4 := (unhide HBM).2 4
              have e0 := (unhide HB5).cellAt (i := 0) rfl
              have e1' := (unhide HB5).cellAt (i := 1) rfl
              have e2 := (unhide HB5).cellAt (i := 2) rfl
              have e3 := (unhide HB5).cellAt (i := 3) rfl
              have hME : w.heap.size < lo := (by have := unhide HFX; have := unhide HFX;   omega)
              go_wp2
              have hst := ((((((StayD.refl (fun b => lo ≤ b) wr).set w.heap.size 0 (.int .i64 7) (fun _ h => by (try dsimp only at h); omega)).set w.heap.size 1 (.int .i64 0) (fun _ h => by (try dsimp only at h); omega)).set w.heap.size 2 (.string sname) (fun _ h => by (try dsimp only at h); omega)).set w.heap.size 3 (.string smod) (fun _ h => by (try dsimp only at h); omega)).set w.heap.size 4 (.slice sa2 ps.length sc2) (fun _ h => by (try dsimp only at h); omega))
              have hn := (((((((((((unhide HBM)).set 0 (.int .i64 7) (by simp))).set 1 (.int .i64 0) (by simp))).set 2 (.string sname) (by simp))).set 3 (.string smod) (by simp))).set 4 (.slice sa2 ps.length sc2) (by simp))
              have hK := ((((((((((((unhide HR0).trans (unhide HR5))).set (unhide HBW) w.heap.size 0 (.int .i64 7) (by omega))).set (unhide HBW) w.heap.size 1 (.int .i64 0) (by omega))).set (unhide HBW) w.heap.size 2 (.string sname) (by omega))).set (unhide HBW) w.heap.size 3 (.string smod) (by omega))).set (unhide HBW) w.heap.size 4 (.slice sa2 ps.length sc2) (by omega))
              obtain ⟨FW, hF⟩ : ∃ FW, FW = (((((wr.setCell ⟨w.heap.size, 0, none⟩ (.int .i64 7)).setCell ⟨w.heap.size, 1, none⟩ (.int .i64 0)).setCell ⟨w.heap.size, 2, none⟩ (.string sname)).setCell ⟨w.heap.size, 3, none⟩ (.string smod)).setCell ⟨w.heap.size, 4, none⟩ (.slice sa2 ps.length sc2)) := ⟨_, rfl⟩
              rw [← hF] at hst hn hK ⊢
              have g0 := hn.cellAt (i := 0) rfl
              have g1 := hn.cellAt (i := 1) rfl
              have g2 := hn.cellAt (i := 2) rfl
              have g3 := hn.cellAt (i := 3) rfl
              have g4 := hn.cellAt (i := 4) rfl
              refine bodyPost_ret (v := .agg #[.int .i64 7, .int .i64 0, .string sname, .string smod, .slice sa2 ps.length sc2]) (by simp [results, Tryz.results63, go_sem, g0, g1, g2, g3, g4]) rfl ?_
              exact ⟨_, .node 7 0 sname smod (ps.map Prod.fst), _, rfl, (keepE_node ((((unhide HO5).stay hst (fun _ h => h)).reads (fun _ h => h)).imp (fun W hW => hW.kids)) (by simp) (by have := unhide HLE; omega) (by omega) (by omega)).less (fun b _ h => by omega), by have := wtL_map (unhide HWT); have h2 := unhide HLE; have h3 : ps.length * (24 * N) ≤ 4 * (24 * N) := Nat.mul_le_mul_right _ (by omega); simp only [TE.wt, List.length_map]; omega, hK.more (by have := unhide HTT; omega)⟩
      · have HP1 := hide (unhide HPR wr q hg3 (by omega) (KeepV.step (unhide HV) (unhide HR3)))
        clear c0 c1 hg3
        go_wp2_with fail
        refine (unhide HP1).mono ?_
        rintro r w4 ⟨v, e, q4, rfl, hke, hwe, hk4⟩
        obtain ⟨k1, m1, nm1, md1, a1, l1, c1, rfl⟩ := IsE.five hke.now
        have HBM := hide ((unhide HB3).ofb (hk4.mv.2 w.heap.size hMr (by have := unhide HBW; omega)))
        have HK4 := hide ((unhide HR3).trans hk4)
        have HKE := hide hke
        have HWE := hide hwe
        have q0 := (unhide HBM).cellAt (i := 0) rfl
        have q1 := (unhide HBM).cellAt (i := 1) rfl
        have q2' := (unhide HBM).cellAt (i := 2) rfl
        have q3 := (unhide HBM).cellAt (i := 3) rfl
        have q4' := (unhide HBM).cellAt (i := 4) rfl
        have f0 := (unhide HBM).2 0
        have f1 := (unhide HBM).2 1
        have f2 := (unhide HBM).2 2
        have f3 := (unhide HBM).2 3
        have f4 := (unhide HBM).2 4
        clear hke hwe hk4 HB3
        go_wp2
        have hst := ((((((StayD.refl (fun b => wr.heap.size ≤ b) w4).set w.heap.size 0 (.int .i64 k1) (fun _ h => by (try dsimp only at h); omega)).set w.heap.size 1 (.int .i64 m1) (fun _ h => by (try dsimp only at h); omega)).set w.heap.size 2 (.string nm1) (fun _ h => by (try dsimp only at h); omega)).set w.heap.size 3 (.string md1) (fun _ h => by (try dsimp only at h); omega)).set w.heap.size 4 (.slice a1 l1 c1) (fun _ h => by (try dsimp only at h); omega))
        have hn := (((((((((((unhide HBM)).set 0 (.int .i64 k1) (by simp))).set 1 (.int .i64 m1) (by simp))).set 2 (.string nm1) (by simp))).set 3 (.string md1) (by simp))).set 4 (.slice a1 l1 c1) (by simp))
        have hK := ((((((((((((unhide HR0).trans (unhide HK4))).set (unhide HBW) w.heap.size 0 (.int .i64 k1) (by omega))).set (unhide HBW) w.heap.size 1 (.int .i64 m1) (by omega))).set (unhide HBW) w.heap.size 2 (.string nm1) (by omega))).set (unhide HBW) w.heap.size 3 (.string md1) (by omega))).set (unhide HBW) w.heap.size 4 (.slice a1 l1 c1) (by omega))
        obtain ⟨FW, hF⟩ : ∃ FW, FW = (((((w4.setCell ⟨w.heap.size, 0, none⟩ (.int .i64 k1)).setCell ⟨w.heap.size, 1, none⟩ (.int .i64 m1)).setCell ⟨w.heap.size, 2, none⟩ (.string nm1)).setCell ⟨w.heap.size, 3, none⟩ (.string md1)).setCell ⟨w.heap.size, 4, none⟩ (.slice a1 l1 c1)) := ⟨_, rfl⟩
        rw [← hF] at hst hn hK ⊢
        have g0 := hn.cellAt (i := 0) rfl
        have g1 := hn.cellAt (i := 1) rfl
        have g2 := hn.cellAt (i := 2) rfl
        have g3 := hn.cellAt (i := 3) rfl
        have g4 := hn.cellAt (i := 4) rfl
        refine bodyPost_ret (v := .agg #[.int .i64 k1, .int .i64 m1, .string nm1, .string md1, .slice a1 l1 c1]) (by simp [results, Tryz.results63, go_sem, g0, g1, g2, g3, g4]) rfl ?_
        exact ⟨_, e, _, rfl, ((unhide HKE).stay hst).less (fun b _ h => by have h9 : wr.heap.size ≤ b := h; omega), Nat.le_trans (unhide HWE) (by omega), hK.more (by omega)⟩
end Go.Proofs.YtffabnmgcicpiaaGreat
