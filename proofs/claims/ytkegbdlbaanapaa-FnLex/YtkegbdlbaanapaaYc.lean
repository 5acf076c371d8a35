/- The walks of l23Many and DrawLexCut. Conditions: the slice that was handed in can be read. -/
import Derived.Test.YtkegbdlbaanapaaDu
namespace Go.Proofs.Ytkegbdlbaanapaa
open Go.RowKit Go.PlainAid

theorem many_odd {o s n N : Nat} (h : o + n * s ≤ N) (h1 : n % 2 = 1) : o + s ≤ N ∧ s ≤ N ∧ (o + s) + n / 2 * (s + s) ≤ N := by
  obtain ⟨m, rfl⟩ : ∃ m, n = 2 * m + 1 := ⟨n / 2, by omega⟩
  have e : (2 * m + 1) / 2 = m := by omega
  rw [e]
  rw [Nat.add_mul, Nat.mul_assoc, Nat.one_mul] at h
  rw [Nat.mul_add]
  omega
theorem many_even {o s n N : Nat} (h : o + n * s ≤ N) (h0 : 0 < n) (h1 : ¬ n % 2 = 1) : s ≤ N ∧ o + n / 2 * (s + s) ≤ N := by
  obtain ⟨m, rfl⟩ : ∃ m, n = 2 * m := ⟨n / 2, by omega⟩
  have e : 2 * m / 2 = m := by omega
  rw [e]
  rw [Nat.mul_assoc] at h
  have : s ≤ m * s := Nat.le_mul_of_pos_left s (by omega)
  rw [Nat.mul_add]
  omega

set_option maxHeartbeats 400000 in
theorem l23Many_any (s : ByteArray) (n : Nat) (w : World) (h : n * s.size ≤ 5000) (hn : n ≤ 5000) (hs : s.size ≤ 5000) :
    Calls Try.prog 41 #[.string s, .int .i64 n] w fun e w' => ∃ r : ByteArray, e = .returned (.string r) ∧ r.size ≤ 5000 ∧ w = w' := by
  go_enter Try.func41, Try.ntmps41
  go_wp2
  go_loop [0, 1, 5] (fun sv nv o => ∃ (s1 o1 : ByteArray) (m : Nat), sv = .string s1 ∧ nv = .int .i64 m ∧ o = .string o1 ∧ Hid (o1.size + m * s1.size ≤ 5000) ∧ m ≤ 5000 ∧ o1.size ≤ 5000 ∧ s1.size ≤ 10000) (fun _ nv _ => (intOf nv).toNat)
  case atStart => exact ⟨s, ⟨#[]⟩, n, rfl, rfl, rfl, hide (by show 0 + _ ≤ _; omega), hn, Nat.zero_le _, by omega⟩
  case round =>
    obtain ⟨s1, o1, m, rfl, rfl, rfl, HI, hm, ho, hs1⟩ := hrel
    by_cases h0 : 0 < m
    · by_cases h1 : m % 2 = 1
      · obtain ⟨q1, q2, q3⟩ := many_odd (unhide HI) h1
        have HQ := hide q3
        clear q3
        have hodd : (((m : Int) % 2) == 1) = true := by rw [beq_iff_eq]; omega
        go_wp2
        go_round
        case rel => exact ⟨s1 ++ s1, o1 ++ s1, m / 2, rfl, by go_num, rfl, hide (by rw [ByteArray.size_append, ByteArray.size_append]; exact unhide HQ), by omega, by rw [ByteArray.size_append]; omega, by rw [ByteArray.size_append]; omega⟩
        case measure => simp [intOf]; omega
      · obtain ⟨q2, q3⟩ := many_even (unhide HI) h0 h1
        have HQ := hide q3
        clear q3
        have hodd : (((m : Int) % 2) == 1) = false := by rw [beq_eq_false_iff_ne]; omega
        go_wp2
        go_round
        case rel => exact ⟨s1 ++ s1, o1, m / 2, rfl, by go_num, rfl, hide (by rw [ByteArray.size_append]; exact unhide HQ), by omega, ho, by rw [ByteArray.size_append]; omega⟩
        case measure => simp [intOf]; omega
    · go_wp2
      go_ret
      exact ⟨o1, rfl, ho, rfl⟩

theorem of_text (B m c : Nat) (cs : List Value) (t : TypeId) (a : Option Addr) (len cap p : Nat) (w : World) (h : IsRd w B a len cap p) (hp : p ≤ 1000000) (hB : B < w.heap.size) (hm1 : 1 ≤ m) (hm2 : m ≤ 1000) (hm : m = cs.length) (hs : cs.all isStr = true) :
    Calls Try.prog 34 #[.pointer (some ⟨B, 0, none⟩), .slice (some ⟨w.heap.size, 0, none⟩) m c] (w.alloc (.cells cs.toArray t)) fun e w' => ∃ y : ByteArray, y.size ≤ 100 ∧ e = .returned (.string y) ∧ IsRd w' B a len cap (p + 1) ∧ Below B w w' ∧ ∃ k, w' = ((w.alloc (.cells cs.toArray t)).setCell ⟨B, 1, none⟩ (.int .i64 (p + 1))).drewN k := by
  have hk : IsRd (w.alloc (.cells cs.toArray t)) B a len cap p := h.kept ((Below.refl _ _).alloc hB _)
  refine (of_any B w.heap.size m c (strAt cs) a len cap p _ hk hp (by omega) hm1 hm2 (isList_of _ _ _ _ hm hs)).mono ?_
  rintro e w' ⟨j, hj, rfl, k, rfl⟩
  exact ⟨_, strAt_len hs _, rfl, hk.next k, ((Below.refl _ _).alloc (by omega) _).trans (pick_below _ _), k, rfl⟩

set_option maxHeartbeats 1000000 in
theorem DrawLexCut_any (a : Option Addr) (len cap : Nat) (w : World) (hl : len ≤ cap) (hm : cap ≤ maxLen) (h : Src w w.heap.size a len) :
    Calls Try.prog 16 #[.slice a len cap] w fun e w' => ∃ s : ByteArray, e = .returned (.string s) ∧ s.size ≤ 8000 ∧ Below w.heap.size w w' := by
  have HO := hide (l23Open_any a len cap w hl hm h)
  clear h hl hm
  go_enter Try.func16, Try.ntmps16
  go_wp2_with fail
  refine (unhide HO).mono ?_
  rintro e w1 ⟨len', cap', rfl, hrd, hb, hsz⟩
  have HR := hide hrd
  have HB := hide hb
  have HZ := hide hsz
  clear hrd hb hsz HO
  go_wp2_with fail
  refine (pick_abs w.heap.size a len' cap' 0 20 _ (unhide HR) (by omega) (by omega)).mono ?_
  rintro e w2 ⟨i, rfl, hi0, hi1, hrd2, hmv⟩
  have hi2 := hi1 (by omega)
  clear hi1
  obtain ⟨m0, rfl⟩ := Int.eq_ofNat_of_zero_le hi0
  have HR2 := hide hrd2
  have HB2 := hide ((unhide HB).trans hmv.1)
  have HZ2 : Hid (w.heap.size < w2.heap.size) := hide (by rw [hmv.2.1, unhide HZ]; omega)
  clear hrd2 hmv HR HB HZ
  go_wp2
  go_loopw [4, 5] (fun o i wr => ∃ (m p : Nat) (out : ByteArray), i = .int .i64 m ∧ o = .string out ∧ m ≤ 20 ∧ p + m ≤ 30 ∧ out.size + 100 * m ≤ 2000 ∧ Hid (IsRd wr w.heap.size a len' cap' p) ∧ Hid (Below w.heap.size w wr) ∧ Hid (w.heap.size < wr.heap.size)) (fun _ i _ => (intOf i).toNat)
  case atStart => exact ⟨m0, 0 + 1, ⟨#[]⟩, rfl, rfl, by omega, by omega, by show 0 + _ ≤ _; omega, HR2, HB2, HZ2⟩
  case round =>
    obtain ⟨m, p, out, rfl, rfl, hm, hpm, hsz, HR, HB, HZ⟩ := hrel
    by_cases h0 : 0 < m
    · go_wp2_with fail
      refine (of_text w.heap.size 17 17 _ _ a len' cap' p _ (unhide HR) (by omega) (unhide HZ) (by omega) (by omega) rfl rfl).mono ?_
      rintro e w3 ⟨y, hy, rfl, hr3, hb3, k3, hk3⟩
      have HR3 := hide hr3
      have HB3 := hide ((unhide HB).trans hb3)
      have HZ3 : Hid (w.heap.size < w3.heap.size) := hide (by have := unhide HZ; have := hb3.size; rw [hk3]; show _ < (World.setCell _ _ _).heap.size; simp [World.setCell]; omega)
      clear hr3 hb3 hk3
      go_wp2
      go_roundw
      case rel => exact ⟨m - 1, p + 1, out ++ y, by go_num, rfl, by omega, by omega, by rw [ByteArray.size_append]; omega, HR3, HB3, HZ3⟩
      case measure => simp [intOf]; omega
    · go_wp2_with fail
      refine (pick_abs w.heap.size a len' cap' p 40 _ (unhide HR) (by omega) (by omega)).mono ?_
      rintro e w4 ⟨i, rfl, i0, i1, hr4, hm4⟩
      have HR4 := hide hr4
      have HB4 := hide ((unhide HB).trans hm4.1)
      clear hr4 hm4 i1 HR HB HZ HR2 HB2 HZ2
      cases h00 : (i == 0) with
      | true =>
        go_wp2_with fail
        refine (pick_abs w.heap.size a len' cap' (p + 1) 2 _ (unhide HR4) (by omega) (by omega)).mono ?_
        rintro e w5 ⟨i', rfl, j0, j1, hr5, hm5⟩
        have j2 := j1 (by omega)
        have HB5 := hide ((unhide HB4).trans hm5.1)
        clear hr5 hm5 j1 HR4 HB4
        go_wp2_with fail
        have e1 : (4000 : Int) - (out.size : Int) + i' = ((4000 - out.size + i'.toNat : Nat) : Int) := by omega
        rw [e1]
        refine (l23Many_any ⟨#[32]⟩ (4000 - out.size + i'.toNat) _ (by show _ * 1 ≤ _; omega) (by omega) (by decide)).mono ?_
        rintro e w6 ⟨r, rfl, hr, rfl⟩
        go_wp2
        go_ret
        exact ⟨_, rfl, by rw [ByteArray.size_append]; omega, unhide HB5⟩
      | false =>
        cases h01 : (i == 1) with
        | true =>
          go_wp2_with fail
          refine (pick_abs w.heap.size a len' cap' (p + 1) 2 _ (unhide HR4) (by omega) (by omega)).mono ?_
          rintro e w5 ⟨i', rfl, j0, j1, hr5, hm5⟩
          have j2 := j1 (by omega)
          have HB5 := hide ((unhide HB4).trans hm5.1)
          clear hr5 hm5 j1 HR4 HB4
          go_wp2_with fail
          have e1 : (1500 : Int) + i' = ((1500 + i'.toNat : Nat) : Int) := by omega
          rw [e1]
          refine (l23Many_any ⟨#[40]⟩ (1500 + i'.toNat) _ (by show _ * 1 ≤ _; omega) (by omega) (by decide)).mono ?_
          rintro e w6 ⟨r, rfl, hr, rfl⟩
          go_wp2
          go_ret
          exact ⟨_, rfl, by omega, unhide HB5⟩
        | false =>
          go_wp2
          go_ret
          exact ⟨_, rfl, by omega, unhide HB4⟩
end Go.Proofs.Ytkegbdlbaanapaa
