/- The walk of a generator's prim. Conditions: the generator and the variables can be read. -/
import Derived.Test.YtffabnmgcicpiaaGreatG11
import Derived.Test.YtffabnmgcicpiaaGreatHb
import Derived.Deep.RegionHeldLaw
namespace Go.Proofs.YtffabnmgcicpiaaGreat
open Go.RowKit Go.PlainAid

/-- A list of texts that lies in a block, by its list. -/
def IsListL (w : World) (L : Nat) (l : List ByteArray) : Prop := IsList w L l.length (fun j => l.getD j ⟨#[]⟩)
theorem wordsL_new (W : World) (l : List ByteArray) (C : Array Value) (hC : C = (l.map Value.string).toArray) : IsListL (W.alloc (.cells C 9)) W.heap.size l :=
  words_new W l.length _ C (fun j hj => by rw [hC]; simp [hj])
theorem ofL_rd (B L c : Nat) (l : List ByteArray) (a : Option Addr) (len cap p : Nat) (w : World) (h : IsRd w B a len cap p) (hp : p ≤ 1000000000000) (hLB : L ≠ B) (hm1 : 1 ≤ l.length) (hm2 : l.length ≤ 1000) (hL : IsListL w L l) :
    Calls Tryz.prog 38 #[.pointer (some ⟨B, 0, none⟩), .slice (some ⟨L, 0, none⟩) l.length c] w fun e w' => ∃ x : ByteArray, x ∈ l ∧ e = .returned (.string x) ∧ RdM B a len cap 1 w w' p (p + 1) ∧ w'.heap.size = w.heap.size := by
  refine (of_rd B L l.length c _ a len cap p w h hp hLB hm1 hm2 hL).mono ?_
  rintro e w' ⟨j, hj, he, hr⟩
  exact ⟨_, by rw [List.getD_eq_getElem?_getD, List.getElem?_eq_getElem hj]; exact List.getElem_mem hj, he, hr⟩
theorem IsInts.kp {lo : Nat} {S : Nat → Prop} {w : World} {a : Option Addr} {zs : List Int} (hk : IsInts w lo w.heap.size a zs) (hS : ∀ b, lo ≤ b → S b) : KpD S w (fun W => IsInts W 0 W.heap.size a zs) :=
  fun _ hW => hk.same (fun b h1 h2 => hW.2 b h2 (hS b h1)) (Nat.zero_le _) hW.1
/-- What a draw of an expression at most d deep comes to. -/
def ExprD (d : Nat) : Prop := ∀ (B G : Nat) (a : Option Addr) (len cap : Nat) (sa : Option Addr) (sc : Nat) (ss : List (SG × List Value)) (t : Int) (va : Option Addr) (vc : Nat) (vars : List TA) (w : World) (p : Nat),
    GenD B G a len cap sa sc ss w p → ((∀ s ∈ ss, SgOk s.1) ∧ ss.length ≤ 1000) → p + 20 * 5 ^ d ≤ 900000000000 → KeepV B w va vars → vars.length + d ≤ 900 → (∀ x ∈ vars, x.name.size ≤ 8) →
    Calls Tryz.prog 53 #[.pointer (some ⟨G, 0, none⟩), .int .i64 t, .slice va vars.length vc, .int .i64 (d : Int)] w fun r w' => ∃ (v : Value) (e : TE) (q : Nat), r = .returned v ∧ KeepE (fun b => w.heap.size ≤ b) (d + 2) w' v e ∧ e.wt ≤ 24 * 5 ^ d ∧ RdM B a len cap (20 * 5 ^ d) w w' p q
def namesP0 : List ByteArray := [⟨#[43]⟩, ⟨#[45]⟩, ⟨#[42]⟩, ⟨#[43]⟩, ⟨#[112, 114, 105, 110, 116]⟩, ⟨#[108, 101, 110]⟩, ⟨#[97, 116]⟩, ⟨#[47]⟩, ⟨#[37]⟩]
def namesP1 : List ByteArray := [⟨#[60]⟩, ⟨#[60, 61]⟩, ⟨#[61]⟩, ⟨#[110, 111, 116]⟩, ⟨#[97, 110, 100]⟩, ⟨#[111, 114]⟩]
def namesP2 : List ByteArray := [⟨#[112, 117, 116]⟩, ⟨#[106, 111, 105, 110]⟩]
theorem namesP_size (x : ByteArray) (h : x ∈ namesP0 ∨ x ∈ namesP1 ∨ x ∈ namesP2) : x.size ≤ 5 := by
  simp only [namesP0, namesP1, namesP2, List.mem_cons, List.not_mem_nil, or_false] at h
  rcases h with (rfl | rfl | rfl | rfl | rfl | rfl | rfl | rfl | rfl) | (rfl | rfl | rfl | rfl | rfl | rfl) | rfl | rfl <;> decide

set_option maxRecDepth 100000 in
set_option maxHeartbeats 8000000 in
theorem prim_of (d : Nat) (IH : ExprD d) (B G : Nat) (a : Option Addr) (len cap : Nat) (sa : Option Addr) (sc : Nat) (ss : List (SG × List Value)) (t : Int) (va : Option Addr) (vc : Nat) (vars : List TA) (w : World) (p : Nat)
    (hg : GenD B G a len cap sa sc ss w p) (hss : (∀ s ∈ ss, SgOk s.1) ∧ ss.length ≤ 1000) (hp : p + 10 + 60 * 5 ^ d ≤ 900000000000) (hv : KeepV B w va vars) (hvl : vars.length + d ≤ 900) (hvn : ∀ x ∈ vars, x.name.size ≤ 8) :
    Calls Tryz.prog 64 #[.pointer (some ⟨G, 0, none⟩), .int .i64 t, .slice va vars.length vc, .int .i64 (((d + 1 : Nat) : Int))] w fun r w' => ∃ (v : Value) (e : TE) (q : Nat), r = .returned v ∧ KeepE (fun b => w.heap.size ≤ b) (d + 3) w' v e ∧ e.wt ≤ 16 + 72 * 5 ^ d ∧ RdM B a len cap (10 + 60 * 5 ^ d) w w' p q := by
  have HBW := hide hg.hB
  have hGw := hg.hG
  have c0 := hg.c0
  obtain ⟨W1, hW1⟩ : ∃ W1, W1 = w.alloc (.cells #[.int .i64 0, .int .i64 0, .string ⟨#[]⟩, .string ⟨#[]⟩, .slice none 0 0] 31) := ⟨_, rfl⟩
  have hrd0 : RdM B a len cap 0 w W1 p p := by rw [hW1]; exact (RdM.refl hg.rd).alloc hg.hB _
  have hblk : Blk W1 w.heap.size [.int .i64 0, .int .i64 0, .string ⟨#[]⟩, .string ⟨#[]⟩, .slice none 0 0] := by rw [hW1]; exact Blk.new w [.int .i64 0, .int .i64 0, .string ⟨#[]⟩, .string ⟨#[]⟩, .slice none 0 0] 31
  have hs1 : W1.heap.size = w.heap.size + 1 := by rw [hW1]; simp
  have HS1 := hide hs1
  have HG := hide (hg.step hrd0)
  have HV := hide (KeepV.step hv hrd0)
  have HR0 := hide hrd0
  have HBK := hide hblk
  have HVN := hide hvn
  have HSS := hide hss
  obtain ⟨N, hN⟩ : ∃ N, 5 ^ d = N := ⟨_, rfl⟩
  have hIH := IH
  unfold ExprD at hIH
  rw [hN] at hp hIH ⊢
  have HIH := hide hIH
  have HPOS : Hid (0 < N) := hide (by rw [← hN]; exact Nat.pow_pos (by omega))
  have H1 := hide (ofL_rd B W1.heap.size 9 namesP0 a len cap p (W1.alloc (.cells #[.string ⟨#[43]⟩, .string ⟨#[45]⟩, .string ⟨#[42]⟩, .string ⟨#[43]⟩, .string ⟨#[112, 114, 105, 110, 116]⟩, .string ⟨#[108, 101, 110]⟩, .string ⟨#[97, 116]⟩, .string ⟨#[47]⟩, .string ⟨#[37]⟩] 9)) ((unhide HG).rd.kept ((below_one _ _).mono (unhide HG).hB)) (by omega) (by have := (unhide HG).hB; omega) (by decide) (by decide) (wordsL_new W1 namesP0 _ rfl))
  rw [hs1] at H1
  have HRa := hide ((RdM.refl (unhide HG).rd).alloc (unhide HG).hB (.cells #[.string ⟨#[43]⟩, .string ⟨#[45]⟩, .string ⟨#[42]⟩, .string ⟨#[43]⟩, .string ⟨#[112, 114, 105, 110, 116]⟩, .string ⟨#[108, 101, 110]⟩, .string ⟨#[97, 116]⟩, .string ⟨#[47]⟩, .string ⟨#[37]⟩] 9))
  clear hg hv hvn hss IH hN hIH hrd0 hblk hs1
  have ht : ((t == 2) = true ∧ (t == 3) = false) ∨ ((t == 2) = false ∧ (t == 3) = true) ∨ ((t == 2) = false ∧ (t == 3) = false) := by
    by_cases e2 : t = 2
    · subst e2; exact .inl ⟨rfl, rfl⟩
    · by_cases e3 : t = 3
      · subst e3; exact .inr (.inl ⟨rfl, rfl⟩)
      · exact .inr (.inr ⟨by simpa using e2, by simpa using e3⟩)
  go_enter Tryz.func64, Tryz.ntmps64
  go_wp2_with fail
  rw [← hW1]
  clear hW1
  refine (unhide H1).mono ?_
  rintro r w2 ⟨x0, hx0, rfl, hk2, -⟩
  have HR2 := hide ((unhide HRa).trans hk2)
  have hg2 := (unhide HG).step (unhide HR2)
  have HG2 := hide hg2
  have c2 := hg2.c0
  have hG2 := hg2.hG
  clear hg2 hk2 c0 hGw H1 HRa
  rcases ht with ⟨t2, t3⟩ | ⟨t2, t3⟩ | ⟨t2, t3⟩
  case' inl =>
    have H2 := hide (ofL_rd B w2.heap.size 6 namesP1 a len cap (p + 1) (w2.alloc (.cells #[.string ⟨#[60]⟩, .string ⟨#[60, 61]⟩, .string ⟨#[61]⟩, .string ⟨#[110, 111, 116]⟩, .string ⟨#[97, 110, 100]⟩, .string ⟨#[111, 114]⟩] 9)) ((unhide HG2).rd.kept ((below_one _ _).mono (unhide HG2).hB)) (by omega) (by have := (unhide HG2).hB; omega) (by decide) (by decide) (wordsL_new w2 namesP1 _ rfl))
    go_wp2_with fail
    refine (unhide H2).mono ?_
    rintro r wx ⟨x, hx, rfl, hk3, -⟩
    obtain ⟨px, hrx⟩ : ∃ px, RdM B a len cap 2 W1 wx p px := ⟨_, (((unhide HR2).alloc (unhide HG).hB (.cells #[.string ⟨#[60]⟩, .string ⟨#[60, 61]⟩, .string ⟨#[61]⟩, .string ⟨#[110, 111, 116]⟩, .string ⟨#[97, 110, 100]⟩, .string ⟨#[111, 114]⟩] 9)).trans hk3).more (by omega)⟩
    have hxs := namesP_size x (.inr (.inl hx))
    clear hk3 hx H2
  case' inr.inl =>
    have H2 := hide (ofL_rd B w2.heap.size 2 namesP2 a len cap (p + 1) (w2.alloc (.cells #[.string ⟨#[112, 117, 116]⟩, .string ⟨#[106, 111, 105, 110]⟩] 9)) ((unhide HG2).rd.kept ((below_one _ _).mono (unhide HG2).hB)) (by omega) (by have := (unhide HG2).hB; omega) (by decide) (by decide) (wordsL_new w2 namesP2 _ rfl))
    go_wp2_with fail
    refine (unhide H2).mono ?_
    rintro r wx ⟨x, hx, rfl, hk3, -⟩
    obtain ⟨px, hrx⟩ : ∃ px, RdM B a len cap 2 W1 wx p px := ⟨_, (((unhide HR2).alloc (unhide HG).hB (.cells #[.string ⟨#[112, 117, 116]⟩, .string ⟨#[106, 111, 105, 110]⟩] 9)).trans hk3).more (by omega)⟩
    have hxs := namesP_size x (.inr (.inr hx))
    clear hk3 hx H2
  case' inr.inr =>
    obtain ⟨wx, hwx⟩ : ∃ wx, wx = w2 := ⟨_, rfl⟩
    obtain ⟨x, hx⟩ : ∃ x, x = x0 := ⟨_, rfl⟩
    rw [← hwx] at HR2 ⊢
    rw [← hx] at hx0 ⊢
    obtain ⟨px, hrx⟩ : ∃ px, RdM B a len cap 2 W1 wx p px := ⟨_, (unhide HR2).more (by omega)⟩
    have hxs := namesP_size x (.inl hx0)
    clear hx hwx
  all_goals
    have hgx := (unhide HG).step hrx
    have cx := hgx.c0
    have hGx := hgx.hG
    have hMW : w.heap.size < W1.heap.size := by have := unhide HS1; omega
    have hWx : W1.heap.size ≤ wx.heap.size := hrx.size
    have HTP := hide (TypePrimS_any x (wx.alloc (.cells #[.int .i64 4, .int .i64 0, .string x, .string ⟨#[]⟩, .slice none 0 0] 31)))
    have HRE := hide (hrx.alloc (unhide HG).hB (.cells #[.int .i64 4, .int .i64 0, .string x, .string ⟨#[]⟩, .slice none 0 0] 31))
    have HBE := hide (Blk.new wx [.int .i64 4, .int .i64 0, .string x, .string ⟨#[]⟩, .slice none 0 0] 31)
    have hl3 := tpArgs_len (primN x.toList)
    unfold TPost at HTP
    obtain ⟨ws, hws⟩ : ∃ ws, tpArgs (primN x.toList) = ws := ⟨_, rfl⟩
    rw [hws] at HTP hl3
    obtain ⟨E, hE⟩ : ∃ E, wx.heap.size = E := ⟨_, rfl⟩
    have HEe := hide hE
    have HBWx := hide (Nat.lt_of_lt_of_le (unhide HG).hB hWx)
    have HWx := hide hWx
    clear hx0 HG2 c2 hG2 HR2 hgx hws hWx hrx
    go_wp2_with fail
    refine (unhide HTP).mono ?_
    rintro r w4 ⟨v4, rfl, ho4, hb4⟩
    obtain ⟨wa, wc, hv4, hi4⟩ := ho4.ints
    subst hv4
    have hs4 : E + 1 ≤ w4.heap.size := by have := hb4.size; rw [alloc_size, hE] at this; exact this
    have hwlt : ∀ b off : Nat, wa = some ⟨b, off, none⟩ → ws = [] ∨ (b ≠ B ∧ b < w4.heap.size) := fun b off e => by
      rcases hi4 with h | ⟨b', off', h1, h0, h2, h3⟩
      · exact .inl h
      · rw [e] at h1
        cases h1
        rw [alloc_size] at h0
        exact .inr ⟨by have := unhide HBWx; omega, h2⟩
    have HWLT := hide hwlt
    have HR4 := hide ((unhide HRE).below (unhide HG).hB hb4)
    rw [hE] at HBE
    have HB4 := hide ((unhide HBE).below hb4 (by rw [alloc_size]; omega))
    obtain ⟨lo, hlo⟩ : ∃ lo, lo = w4.heap.size := ⟨_, rfl⟩
    have HLO : Hid (E + 1 ≤ lo ∧ lo = w4.heap.size) := hide ⟨by omega, hlo⟩
    have KW : Hid (KpD (fun b => b ≠ B ∧ b < lo ∧ b ≠ E) w4 (fun W => IsInts W 0 W.heap.size wa ws)) := hide ((IsInts.kp (S := fun b => (wx.alloc (.cells #[.int .i64 4, .int .i64 0, .string x, .string ⟨#[]⟩, .slice none 0 0] 31)).heap.size ≤ b) hi4 (fun _ h => h)).less (fun b hb h => by rw [alloc_size] at h; have := unhide HBWx; have := (unhide HLO).2; exact ⟨by omega, by omega, by omega⟩))
    have HO4 := hide ((OwnD.nil (EltE (d + 2)) 5 31 (fun b => lo ≤ b) lo w4))
    have HS4 : Hid (lo ≤ w4.heap.size) := hide (by omega)
    obtain ⟨T, hT⟩ : ∃ T, 20 * N = T := ⟨_, rfl⟩
    have HTT := hide hT
    clear ho4 hb4 hi4 hs4 hwlt hlo HTP HRE HBE hE cx hGx hT
    go_wp2
    go_loopw [13] (fun v wq => ∃ (k q : Nat) (ps : List (TE × List Value)) (sa2 : Option Addr) (sc2 : Nat), v = .int .i64 k ∧ k ≤ ws.length ∧ Hid (ps.length = k) ∧ Hid (RdM B a len cap (2 + k * T) W1 wq p q) ∧ Hid (Blk wq E [.int .i64 4, .int .i64 0, .string x, .string ⟨#[]⟩, .slice sa2 ps.length sc2]) ∧ Hid (OwnD (EltE (d + 2)) 5 31 (fun b => lo ≤ b) lo wq (.slice sa2 ps.length sc2) ps) ∧ Hid (lo ≤ wq.heap.size) ∧ Hid (KpD (fun b => b ≠ B ∧ b < lo ∧ b ≠ E) wq (fun W => IsInts W 0 W.heap.size wa ws)) ∧ Hid (∀ x ∈ ps, x.1.wt ≤ 24 * N)) (fun v _ => ws.length - (intOf v).toNat)
    case atStart => exact ⟨0, _, [], none, 0, rfl, Nat.zero_le _, hide rfl, hide ((unhide HR4).more (by omega)), HB4, HO4, HS4, KW, hide (fun x hx => absurd hx List.not_mem_nil)⟩
    case round =>
      clear HR4 HB4 HO4 HS4 KW
      obtain ⟨k, q, ps, sa2, sc2, rfl, hk, HLE, HR5, HB5, HO5, HS5, KW, HWT⟩ := hrel
      have hkT : k * T ≤ 3 * T := Nat.mul_le_mul_right T (by omega)
      have hq : q ≤ p + 2 + k * T := by have := (unhide HR5).le; omega
      have c0 := ((unhide HG).step (unhide HR5)).c0
      have hGr := ((unhide HG).step (unhide HR5)).hG
      have e0 := (unhide HB5).cellAt (i := 0) rfl
      have e1 := (unhide HB5).cellAt (i := 1) rfl
      have e2 := (unhide HB5).cellAt (i := 2) rfl
      have e3 := (unhide HB5).cellAt (i := 3) rfl
      have e4 := (unhide HB5).cellAt (i := 4) rfl
      by_cases hp2 : k < ws.length
      · rcases (unhide KW).now with hq0 | ⟨wb, woff, rfl, _, hwb, hwc⟩
        · rw [hq0] at hp2; simp at hp2
        have ck := hwc k hp2
        obtain ⟨tk, htk⟩ : ∃ tk, ws[k]'hp2 = tk := ⟨_, rfl⟩
        rw [htk] at ck
        have hkT1 : (k + 1) * T ≤ 3 * T := Nat.mul_le_mul_right T (by omega)
        have hkT2 : (k + 1) * T = k * T + T := Nat.succ_mul k T
        have HKT := hide hkT2
        have hqT : q + T ≤ p + 2 + 3 * T := by omega
        have HEX := hide (unhide HIH B G a len cap sa sc ss tk va vc vars wr.drew q ((unhide HG).step (unhide HR5).drew) (unhide HSS) (by have := unhide HTT; omega) (KeepV.step (unhide HV) (unhide HR5).drew) hvl (unhide HVN))
        have HOWN := hide (fun (g : Nat) (hg : (Value.slice sa2 ps.length sc2).ownBlock = some g) => ((unhide HO5).row.lt g hg).2)
        have hwbl : wb < lo ∧ wb ≠ B := by
          rcases unhide HWLT wb woff rfl with h | ⟨h1, h2⟩
          · rw [h] at hp2; simp at hp2
          · exact ⟨by have := (unhide HLO).2; omega, h1⟩
        obtain ⟨hwbl, hwbB⟩ := hwbl
        have HWR : IntKind.i64.wrap (d : Int) = (d : Int) := by rw [IntKind.wrap_i64]; omega
        rw [← HWR] at HEX
        clear e0 e1 e2 e3 hwc htk hkT2 HWR
        go_wp2
        go_region_law (first
          | (refine step_runD rfl (.tmp 50) (.tmp 60) 25 rfl rfl (.slice sa2 ps.length sc2) (.slice (some ⟨w3.heap.size, 0, none⟩) 1 1) rfl rfl (.slice (some ⟨g5, 0, none⟩) (ps.length + 1) c5) w5 (by exact r5) ?_)
          | (go_simp; refine (unhide HEX).mono ?_; rintro r w3 ⟨v, e, q3, rfl, hke, hwe, hk3⟩; have z3 : StayD (fun b => b ≠ B ∧ b < lo) wr w3 := hk3.mv.stay (fun _ h => h.1); obtain ⟨k1, m1, nm1, md1, a1, l1, c1, rfl⟩ := IsE.five hke.now; obtain ⟨g5, c5, w5, r5, o5, b5, k5, s5, y5⟩ := kidsPush ((show OwnD (EltE (d + 2)) 5 31 (fun b => lo ≤ b) lo wr.drew (.slice sa2 ps.length sc2) ps from (unhide HO5).stay (StayD.refl _ wr).drew (fun _ h => h)).stay (hk3.mv.stay (fun b h => by have := unhide HBWx; have := unhide HEe; have := (unhide HLO).1; omega)) (fun _ h => h)) (Nat.le_trans (unhide HS5) hk3.size) (unhide HLO).1 ((show Blk wr.drew E _ from unhide HB5).ofb (hk3.mv.2 E (by have := unhide HS5; have := (unhide HLO).1; show E < wr.heap.size; omega) (by have := unhide HBWx; have := unhide HEe; omega))) ((unhide HR5).drew.trans hk3) (unhide HG).hB (by have := unhide HWx; have := unhide HEe; have := (unhide HLO).1; omega) (by have := unhide HLE; omega) k1 m1 nm1 md1 a1 l1 c1 e (hke.less (fun b _ hb => by have h1 : wr.heap.size ≤ b := hb; exact ⟨by have := unhide HS5; omega, fun h2 => by have := unhide HOWN b h2.symm; omega⟩)); have ck' : w3.cell? ⟨wb, woff + k, none⟩ = some (.int .i64 tk) := (World.cell?_of_block (w := wr) (a := ⟨wb, woff + k, none⟩) (z3.2 wb hwb ⟨hwbB, hwbl⟩)).trans ck; have e4' := (((show Blk wr.drew E _ from unhide HB5).ofb (hk3.mv.2 E (by have := unhide HS5; have := (unhide HLO).1; show E < wr.heap.size; omega) (by have := unhide HBWx; have := unhide HEe; omega)))).cellAt (i := 4) rfl; have q4 := b5.cellAt (i := 4) rfl; have f4 := b5.2 4; have HB6 := hide b5; have HK6 := hide k5; have HO6 := hide o5; have HS6 := hide s5; have hEl : E < w3.heap.size := Nat.lt_of_lt_of_le (Nat.lt_of_lt_of_le (Nat.lt_of_lt_of_le (Nat.lt_succ_self E) (unhide HLO).1) (unhide HS5)) hk3.size; have KW3 := hide (((unhide KW).stay (StayD.refl _ wr).drew).stay (hk3.mv.stay (fun _ h => h.1))); have HWE := hide hwe; have HZ5 := hide y5; clear hke hwe hk3 b5 k5 o5 s5 y5))
        all_goals
          go_wp2
          go_roundw
          case rel =>
            exact ⟨k + 1, q3, ps ++ [(e, [.int .i64 k1, .int .i64 m1, .string nm1, .string md1, .slice a1 l1 c1])], some ⟨g5, 0, none⟩, c5, by go_num, by omega, hide (by simp; exact unhide HLE), hide ((((unhide HK6).set (unhide HG).hB E 4 (.slice (some ⟨g5, 0, none⟩) (ps.length + 1) c5) (by have := unhide HWx; have := unhide HEe; omega)).more (by have := unhide HKT; have := unhide HTT; omega))), hide (by simpa using (unhide HB6).set 4 (.slice (some ⟨g5, 0, none⟩) (ps.length + 1) c5) (by simp)), hide (by simpa using (unhide HO6).stay ((StayD.refl _ _).set E 4 _ (fun _ h => by have := (unhide HLO).1; omega)) (fun _ h => h)), hide (by simpa [World.setCell] using unhide HS6), hide (((unhide KW3).stay ((unhide HZ5).less (fun _ _ h => h.2.1))).stay ((StayD.refl _ _).set E 4 _ (fun _ h => h.2.2 rfl))), hide (fun y hy => by rcases List.mem_append.1 hy with hy | hy; exact unhide HWT y hy; rw [List.mem_singleton] at hy; subst hy; exact unhide HWE)⟩
          case measure => simp [intOf]; omega
      · obtain rfl : k = ws.length := by omega
        have HBM := hide ((unhide HBK).ofb ((unhide HR5).mv.2 w.heap.size hMW (by have := unhide HBW; omega)))
        have q0 := (unhide HBM).cellAt (i := 0) rfl
        have q1 := (unhide HBM).cellAt (i := 1) rfl
        have q2 := (unhide HBM).cellAt (i := 2) rfl
        have q3 := (unhide HBM).cellAt (i := 3) rfl
        have q4 := (unhide HBM).cellAt (i := 4) rfl
        have f0 := (unhide HBM).2 0
        have f1 := (unhide HBM).2 1
        have f2 := (unhide HBM).2 2
        have f3 := (unhide HBM).2 3
        have f4 := (unhide HBM).2 4
        have hME : w.heap.size < lo := (by have := (unhide HLO).1; have := unhide HWx; have := unhide HEe; omega)
        go_wp2
        have hst := ((((((StayD.refl (fun b => lo ≤ b) wr).set w.heap.size 0 (.int .i64 4) (fun _ h => by (try dsimp only at h); omega)).set w.heap.size 1 (.int .i64 0) (fun _ h => by (try dsimp only at h); omega)).set w.heap.size 2 (.string x) (fun _ h => by (try dsimp only at h); omega)).set w.heap.size 3 (.string ⟨#[]⟩) (fun _ h => by (try dsimp only at h); omega)).set w.heap.size 4 (.slice sa2 ps.length sc2) (fun _ h => by (try dsimp only at h); omega))
        have hn := (((((((((((unhide HBM)).set 0 (.int .i64 4) (by simp))).set 1 (.int .i64 0) (by simp))).set 2 (.string x) (by simp))).set 3 (.string ⟨#[]⟩) (by simp))).set 4 (.slice sa2 ps.length sc2) (by simp))
        have hK := ((((((((((((unhide HR0).trans (unhide HR5))).set (unhide HBW) w.heap.size 0 (.int .i64 4) (by omega))).set (unhide HBW) w.heap.size 1 (.int .i64 0) (by omega))).set (unhide HBW) w.heap.size 2 (.string x) (by omega))).set (unhide HBW) w.heap.size 3 (.string ⟨#[]⟩) (by omega))).set (unhide HBW) w.heap.size 4 (.slice sa2 ps.length sc2) (by omega))
        obtain ⟨FW, hF⟩ : ∃ FW, FW = (((((wr.setCell ⟨w.heap.size, 0, none⟩ (.int .i64 4)).setCell ⟨w.heap.size, 1, none⟩ (.int .i64 0)).setCell ⟨w.heap.size, 2, none⟩ (.string x)).setCell ⟨w.heap.size, 3, none⟩ (.string ⟨#[]⟩)).setCell ⟨w.heap.size, 4, none⟩ (.slice sa2 ps.length sc2)) := ⟨_, rfl⟩
        rw [← hF] at hst hn hK ⊢
        have g0 := hn.cellAt (i := 0) rfl
        have g1 := hn.cellAt (i := 1) rfl
        have g2 := hn.cellAt (i := 2) rfl
        have g3 := hn.cellAt (i := 3) rfl
        have g4 := hn.cellAt (i := 4) rfl
        refine bodyPost_ret (v := .agg #[.int .i64 4, .int .i64 0, .string x, .string ⟨#[]⟩, .slice sa2 ps.length sc2]) (by simp [results, Tryz.results64, go_sem, g0, g1, g2, g3, g4]) rfl ?_
        exact ⟨_, .node 4 0 x ⟨#[]⟩ (ps.map Prod.fst), _, rfl, (keepE_node ((((unhide HO5).stay hst (fun _ h => h)).reads (fun _ h => h)).imp (fun W hW => hW.kids)) (by simp) (by have := unhide HLE; omega) (by omega) (Nat.zero_le _)).less (fun b _ h => by omega), by have := wtL_map (unhide HWT); have h2 := unhide HLE; have h3 : ps.length * (24 * N) ≤ 3 * (24 * N) := Nat.mul_le_mul_right _ (by omega); simp only [TE.wt, emp_size, List.length_map]; omega, hK.more (by have := unhide HTT; omega)⟩
end Go.Proofs.YtffabnmgcicpiaaGreat
