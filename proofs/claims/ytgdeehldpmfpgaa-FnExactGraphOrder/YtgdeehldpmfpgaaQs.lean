/- The walk of container/heap's down at a graphHeap. Conditions: the heap's row is in a block of its own. -/
import Derived.Test.YtgdeehldpmfpgaaQr
namespace Go.Proofs.Ytgdeehldpmfpgaa
open Go.RowKit Go.PlainAid

theorem hless_int {base : Nat} {so : Option Addr} {cp : Nat} {ys : List ByteArray} {n : Nat} {w : World} (h : HRow w base so cp ys) (hn : ys.length = n) (i j : Nat) (hi : i < n) (hj : j < n) (x y : Int) (hx : x = i) (hy : y = j) :
    Calls Try.prog 113 #[.slice so n cp, .int .i64 x, .int .i64 y] w fun r w' => r = .returned (.bool (Op.bytesLess (atF ys i).toList (atF ys j).toList)) ∧ Below w.heap.size w w' := by
  subst hn hx hy
  exact hless_any base so cp ys i j w h hi hj
theorem hswap_int {base : Nat} {so : Option Addr} {cp : Nat} {ys : List ByteArray} {n : Nat} {w : World} (h : HRow w base so cp ys) (hn : ys.length = n) (i j : Nat) (hi : i < n) (hj : j < n) (x y : Int) (hx : x = i) (hy : y = j) :
    Calls Try.prog 114 #[.slice so n cp, .int .i64 x, .int .i64 y] w fun r w' => r = .returned (.tuple #[]) ∧ Swd w base so cp (swL ys i j) w' := by
  subst hn hx hy
  exact hswap_any base so cp ys i j w h hi hj
/-- What holds while something goes down. -/
structure DInv (w : World) (base g cp n : Nat) (xs ys : List ByteArray) (ii : Nat) (W : World) : Prop where
  len : ys.length = xs.length
  perm : ys.Perm xs
  tail : ∀ k, n ≤ k → atF ys k = atF xs k
  down : DownF (atF ys) n ii
  row : HRow W base (some ⟨g, 0, none⟩) cp ys
  gr : w.grownBy W (some g)
theorem DInv.kept {w W W' : World} {base g cp n ii : Nat} {xs ys : List ByteArray} (h : DInv w base g cp n xs ys ii W) (hb : Below W.heap.size W W') : DInv w base g cp n xs ys ii W' :=
  ⟨h.len, h.perm, h.tail, h.down, own_keptG h.row hb, gr_trans h.gr (gr_below hb _)⟩
theorem DInv.leaf {w W : World} {base g cp n ii : Nat} {xs ys : List ByteArray} (h : DInv w base g cp n xs ys ii W) (hn : n ≤ 2 * ii + 1) : Sifted w base (some ⟨g, 0, none⟩) cp n xs W :=
  ⟨ys, h.len, h.perm, h.tail, h.down.leaf hn, h.row, g, rfl, h.gr⟩
theorem DInv.done {w W : World} {base g cp n ii : Nat} {xs ys : List ByteArray} (h : DInv w base g cp n xs ys ii W) (j : Nat) (hle : ∀ c, 0 < c → c < n → parG c = ii → ¬ ltN (atF ys c) (atF ys j)) (hl : ¬ ltN (atF ys j) (atF ys ii)) : Sifted w base (some ⟨g, 0, none⟩) cp n xs W :=
  ⟨ys, h.len, h.perm, h.tail, h.down.done j hle hl, h.row, g, rfl, h.gr⟩
theorem DInv.next {w W W' : World} {base g cp n ii : Nat} {xs ys : List ByteArray} (h : DInv w base g cp n xs ys ii W) (j : Nat) (hn : n ≤ xs.length) (hj0 : 0 < j) (hjn : j < n) (hji : parG j = ii) (hle : ∀ c, 0 < c → c < n → parG c = ii → ¬ ltN (atF ys c) (atF ys j)) (hl : ltN (atF ys j) (atF ys ii)) (hs : Swd W base (some ⟨g, 0, none⟩) cp (swL ys ii j) W') : DInv w base g cp n xs (swL ys ii j) j W' := by
  have hp := parG_lt hj0
  rw [hji] at hp
  have h1 : ii < ys.length := by rw [h.len]; omega
  have h2 : j < ys.length := by rw [h.len]; omega
  obtain ⟨hr, g', hg', hgr⟩ := hs
  cases hg'
  refine ⟨(swL_len _ _ _).trans h.len, (swL_perm h1 h2).trans h.perm, fun k hk => ?_, ?_, hr, gr_trans h.gr hgr⟩
  · rw [swL_at h1 h2]
    unfold swF
    rw [if_neg (by omega), if_neg (by omega)]
    exact h.tail k hk
  · rw [swL_at h1 h2]
    exact h.down.next hj0 hjn hji hle hl
theorem ltN_irrefl (a : ByteArray) : ¬ ltN a a := List.lt_irrefl _

set_option maxRecDepth 100000 in
set_option maxHeartbeats 4000000 in
theorem hdown_any (base L o : Nat) (so : Option Addr) (cp : Nat) (xs : List ByteArray) (i0 n : Nat) (w : World) (hc : w.cell? ⟨L, o, none⟩ = some (.slice so xs.length cp)) (hL : L < base) (h : HRow w base so cp xs) (hi0 : i0 < xs.length) (hn : n ≤ xs.length) (hu : DownF (atF xs) n i0) (hx : xs.length ≤ 8) :
    Calls Try.prog 60 #[.iface 77 (.pointer (some ⟨L, o, none⟩)), .int .i64 i0, .int .i64 n] w fun r w' => ∃ b, r = .returned (.bool b) ∧ Sifted w base so cp n xs w' := by
  obtain ⟨g, rfl, hb, hg, _, _⟩ := h.cell hi0
  have HC := hide hc
  have HI : Hid (DInv w base g cp n xs xs i0 w) := hide ⟨rfl, .refl _, fun _ _ => rfl, hu, h, gr_below (Below.refl _ _) _⟩
  clear hc h hu
  go_enter Try.func60, Try.ntmps60
  go_wp2
  go_loopw [7] (fun v1 wr => ∃ (ii : Nat) (ys : List ByteArray), v1 = .int .i64 ii ∧ ii < xs.length ∧ Hid (DInv w base g cp n xs ys ii wr)) (fun v1 _ => xs.length - (intOf v1).toNat)
  case atStart => exact ⟨i0, xs, rfl, hi0, HI⟩
  case round =>
    clear HI
    obtain ⟨ii, ys, rfl, hii, HI⟩ := hrel
    by_cases hge : n ≤ 2 * ii + 1
    · have hge' : (n : Int) ≤ 2 * (ii : Int) + 1 := by omega
      have HX := hide ((unhide HI).leaf hge)
      go_wp2
      go_ret
      exact ⟨_, rfl, unhide HX⟩
    · have hlt' : 2 * (ii : Int) + 1 < (n : Int) := by omega
      have hng : ¬ ((n : Int) ≤ 2 * (ii : Int) + 1) := by omega
      have hnz : ¬ (2 * (ii : Int) + 1 < 0) := by omega
      have hC : wr.cell? ⟨L, o, none⟩ = some (.slice (some ⟨g, 0, none⟩) xs.length cp) := hp_cell (unhide HC) hL hb (unhide HI).gr
      have M1 : (method 244 77 (.pointer (some ⟨L, o, none⟩)) "Less").run Try.prog wr = .ok (113, .slice (some ⟨g, 0, none⟩) xs.length cp) wr := m_val mrow_less L o (some ⟨g, 0, none⟩) xs.length cp _ wr hC
      by_cases h2 : 2 * ii + 2 < n
      · have h2' : 2 * (ii : Int) + 1 + 1 < (n : Int) := by omega
        have h2'' : 2 * (ii : Int) + 2 < (n : Int) := by omega
        obtain ⟨t, ht⟩ : ∃ t, Op.bytesLess (atF ys (2 * ii + 2)).toList (atF ys (2 * ii + 1)).toList = t := ⟨_, rfl⟩
        have HT : Hid (t = true ↔ ltN (atF ys (2 * ii + 2)) (atF ys (2 * ii + 1))) := hide (by rw [← ht]; exact ltN_less _ _)
        have HLS := hide (hless_int (unhide HI).row (unhide HI).len (2 * ii + 2) (2 * ii + 1) (by omega) (by omega))
        rw [ht] at HLS
        clear ht
        go_wp2_with fail
        refine (unhide HLS _ _ (by omega) (by omega)).mono ?_
        rintro r w2 ⟨rfl, hb2⟩
        have HI2 := hide ((unhide HI).kept hb2)
        clear HI HLS M1 hC hb2
        have hC : w2.cell? ⟨L, o, none⟩ = some (.slice (some ⟨g, 0, none⟩) xs.length cp) := hp_cell (unhide HC) hL hb (unhide HI2).gr
        have M1 : (method 244 77 (.pointer (some ⟨L, o, none⟩)) "Less").run Try.prog w2 = .ok (113, .slice (some ⟨g, 0, none⟩) xs.length cp) w2 := m_val mrow_less L o (some ⟨g, 0, none⟩) xs.length cp _ w2 hC
        cases t with
        | true =>
          have hle : ∀ c, 0 < c → c < n → parG c = ii → ¬ ltN (atF ys c) (atF ys (2 * ii + 2)) := fun c h0 hcn hp => by
            rcases par_kids h0 hp with rfl | rfl
            · exact ((unhide HT).1 rfl).asymm
            · exact ltN_irrefl _
          have hpj : parG (2 * ii + 2) = ii := by unfold parG; omega
          obtain ⟨t, ht⟩ : ∃ t, Op.bytesLess (atF ys (2 * ii + 2)).toList (atF ys ii).toList = t := ⟨_, rfl⟩
          have HT2 : Hid (t = true ↔ ltN (atF ys (2 * ii + 2)) (atF ys ii)) := hide (by rw [← ht]; exact ltN_less _ _)
          have HLS := hide (hless_int (unhide HI2).row (unhide HI2).len (2 * ii + 2) ii (by omega) (by omega))
          rw [ht] at HLS
          clear ht
          go_wp2_with fail
          refine (unhide HLS _ _ (by omega) (by omega)).mono ?_
          rintro r w4 ⟨rfl, hb4⟩
          have HI4 := hide ((unhide HI2).kept hb4)
          clear HI2 HLS M1 hC hb4
          cases t with
          | false =>
            have HX := hide ((unhide HI4).done (2 * ii + 2) hle (fun hl => by have := (unhide HT2).2 hl; cases this))
            go_wp2
            go_ret
            exact ⟨_, rfl, unhide HX⟩
          | true =>
            have hC4 : w4.cell? ⟨L, o, none⟩ = some (.slice (some ⟨g, 0, none⟩) xs.length cp) := hp_cell (unhide HC) hL hb (unhide HI4).gr
            have M2 : (method 244 77 (.pointer (some ⟨L, o, none⟩)) "Swap").run Try.prog w4 = .ok (114, .slice (some ⟨g, 0, none⟩) xs.length cp) w4 := m_val mrow_swap L o (some ⟨g, 0, none⟩) xs.length cp _ w4 hC4
            have HSW := hide (hswap_int (unhide HI4).row (unhide HI4).len ii (2 * ii + 2) (by omega) (by omega))
            have HNX := hide (fun W' hs => (unhide HI4).next (W' := W') (2 * ii + 2) hn (by omega) (by omega) hpj hle ((unhide HT2).1 rfl) hs)
            go_wp2_with fail
            refine (unhide HSW _ _ (by omega) (by omega)).mono ?_
            rintro r w5 ⟨rfl, hs5⟩
            have HI5 := hide (unhide HNX _ hs5)
            clear HI4 HSW HNX M2 hC4 hs5
            go_wp2
            go_roundw
            case rel => exact ⟨2 * ii + 2, swL ys ii (2 * ii + 2), by go_num, by omega, HI5⟩
            case measure => simp [intOf]; omega
        | false =>
          have hle : ∀ c, 0 < c → c < n → parG c = ii → ¬ ltN (atF ys c) (atF ys (2 * ii + 1)) := fun c h0 hcn hp => by
            rcases par_kids h0 hp with rfl | rfl
            · exact ltN_irrefl _
            · exact fun hl => by have := (unhide HT).2 hl; cases this
          have hpj : parG (2 * ii + 1) = ii := by unfold parG; omega
          obtain ⟨t, ht⟩ : ∃ t, Op.bytesLess (atF ys (2 * ii + 1)).toList (atF ys ii).toList = t := ⟨_, rfl⟩
          have HT2 : Hid (t = true ↔ ltN (atF ys (2 * ii + 1)) (atF ys ii)) := hide (by rw [← ht]; exact ltN_less _ _)
          have HLS := hide (hless_int (unhide HI2).row (unhide HI2).len (2 * ii + 1) ii (by omega) (by omega))
          rw [ht] at HLS
          clear ht
          go_wp2_with fail
          refine (unhide HLS _ _ (by omega) (by omega)).mono ?_
          rintro r w4 ⟨rfl, hb4⟩
          have HI4 := hide ((unhide HI2).kept hb4)
          clear HI2 HLS M1 hC hb4
          cases t with
          | false =>
            have HX := hide ((unhide HI4).done (2 * ii + 1) hle (fun hl => by have := (unhide HT2).2 hl; cases this))
            go_wp2
            go_ret
            exact ⟨_, rfl, unhide HX⟩
          | true =>
            have hC4 : w4.cell? ⟨L, o, none⟩ = some (.slice (some ⟨g, 0, none⟩) xs.length cp) := hp_cell (unhide HC) hL hb (unhide HI4).gr
            have M2 : (method 244 77 (.pointer (some ⟨L, o, none⟩)) "Swap").run Try.prog w4 = .ok (114, .slice (some ⟨g, 0, none⟩) xs.length cp) w4 := m_val mrow_swap L o (some ⟨g, 0, none⟩) xs.length cp _ w4 hC4
            have HSW := hide (hswap_int (unhide HI4).row (unhide HI4).len ii (2 * ii + 1) (by omega) (by omega))
            have HNX := hide (fun W' hs => (unhide HI4).next (W' := W') (2 * ii + 1) hn (by omega) (by omega) hpj hle ((unhide HT2).1 rfl) hs)
            go_wp2_with fail
            refine (unhide HSW _ _ (by omega) (by omega)).mono ?_
            rintro r w5 ⟨rfl, hs5⟩
            have HI5 := hide (unhide HNX _ hs5)
            clear HI4 HSW HNX M2 hC4 hs5
            go_wp2
            go_roundw
            case rel => exact ⟨2 * ii + 1, swL ys ii (2 * ii + 1), by go_num, by omega, HI5⟩
            case measure => simp [intOf]; omega
      · have h2' : ¬ (2 * (ii : Int) + 1 + 1 < (n : Int)) := by omega
        have h2'' : ¬ (2 * (ii : Int) + 2 < (n : Int)) := by omega
        have d2' : decide (2 * (ii : Int) + 1 + 1 < (n : Int)) = false := decide_eq_false h2'
        have d2'' : decide (2 * (ii : Int) + 2 < (n : Int)) = false := decide_eq_false h2''
        have hle : ∀ c, 0 < c → c < n → parG c = ii → ¬ ltN (atF ys c) (atF ys (2 * ii + 1)) := fun c h0 hcn hp => by
          rcases par_kids h0 hp with rfl | rfl
          · exact ltN_irrefl _
          · omega
        have hpj : parG (2 * ii + 1) = ii := by unfold parG; omega
        obtain ⟨t, ht⟩ : ∃ t, Op.bytesLess (atF ys (2 * ii + 1)).toList (atF ys ii).toList = t := ⟨_, rfl⟩
        have HT2 : Hid (t = true ↔ ltN (atF ys (2 * ii + 1)) (atF ys ii)) := hide (by rw [← ht]; exact ltN_less _ _)
        have HLS := hide (hless_int (unhide HI).row (unhide HI).len (2 * ii + 1) ii (by omega) (by omega))
        rw [ht] at HLS
        clear ht
        go_wp2_with fail
        refine (unhide HLS _ _ (by omega) (by omega)).mono ?_
        rintro r w4 ⟨rfl, hb4⟩
        have HI4 := hide ((unhide HI).kept hb4)
        clear HI HLS M1 hC hb4
        cases t with
        | false =>
          have HX := hide ((unhide HI4).done (2 * ii + 1) hle (fun hl => by have := (unhide HT2).2 hl; cases this))
          go_wp2
          go_ret
          exact ⟨_, rfl, unhide HX⟩
        | true =>
          have hC4 : w4.cell? ⟨L, o, none⟩ = some (.slice (some ⟨g, 0, none⟩) xs.length cp) := hp_cell (unhide HC) hL hb (unhide HI4).gr
          have M2 : (method 244 77 (.pointer (some ⟨L, o, none⟩)) "Swap").run Try.prog w4 = .ok (114, .slice (some ⟨g, 0, none⟩) xs.length cp) w4 := m_val mrow_swap L o (some ⟨g, 0, none⟩) xs.length cp _ w4 hC4
          have HSW := hide (hswap_int (unhide HI4).row (unhide HI4).len ii (2 * ii + 1) (by omega) (by omega))
          have HNX := hide (fun W' hs => (unhide HI4).next (W' := W') (2 * ii + 1) hn (by omega) (by omega) hpj hle ((unhide HT2).1 rfl) hs)
          go_wp2_with fail
          refine (unhide HSW _ _ (by omega) (by omega)).mono ?_
          rintro r w5 ⟨rfl, hs5⟩
          have HI5 := hide (unhide HNX _ hs5)
          clear HI4 HSW HNX M2 hC4 hs5
          go_wp2
          go_roundw
          case rel => exact ⟨2 * ii + 1, swL ys ii (2 * ii + 1), by go_num, by omega, HI5⟩
          case measure => simp [intOf]; omega
end Go.Proofs.Ytgdeehldpmfpgaa
