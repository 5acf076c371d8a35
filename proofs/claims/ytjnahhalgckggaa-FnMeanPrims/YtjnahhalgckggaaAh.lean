/- The walks of l6Fits and l6Prim. Conditions: the values can be read. -/
import Derived.Test.YtjnahhalgckggaaAg
namespace Go.Proofs.Ytjnahhalgckggaa
open Go.RowKit Go.PlainAid

def zV : MV := ⟨0, 0, []⟩
/-- Whether values are as many and of the kinds that a primitive wants. -/
def fitB (n : Nat) (xs : List MV) : Bool := decide (n ≠ 0) && decide (xs.map MV.kind = tpArgs n)
/-- What a primitive makes of values that fit. -/
def primR (n : Nat) (xs : List MV) : MV × Int :=
  let a := xs.getD 0 zV
  let b := xs.getD 1 zV
  let c := xs.getD 2 zV
  if n ≤ 8 then (⟨(calcR n a.num b.num).1, (calcR n a.num b.num).2.1, []⟩, (calcR n a.num b.num).2.2)
  else if n = 9 then (⟨2, boolI (a.num == 0), []⟩, 0)
  else if n = 10 then (if 0 ≤ b.num ∧ b.num < a.row.length then (⟨1, a.row.getD b.num.toNat 0, []⟩, 0) else (⟨0, 0, []⟩, 2))
  else if n = 11 then (⟨1, a.row.length, []⟩, 0)
  else if n = 12 then (if 0 ≤ b.num ∧ b.num < a.row.length then (⟨3, 0, a.row.set b.num.toNat c.num⟩, 0) else (⟨0, 0, []⟩, 2))
  else if n = 13 then (if 16 < a.row.length + b.row.length then (⟨0, 0, []⟩, 3) else (⟨3, 0, a.row ++ b.row⟩, 0))
  else if n = 14 then (⟨1, a.num, []⟩, 0)
  else if n = 15 then (⟨2, boolI (a.num != 0 && b.num != 0), []⟩, 0)
  else (⟨2, boolI (a.num != 0 || b.num != 0), []⟩, 0)
/-- MeanPrim. -/
def meanR (n : Nat) (xs : List MV) : MV × Int := if fitB n xs then primR n xs else (⟨0, 0, []⟩, -1)
theorem tpRes_ne (n : Nat) : tpRes n = 0 ↔ n = 0 := by
  unfold tpRes
  constructor
  · intro h
    repeat' split at h
    all_goals first | assumption | omega
  · intro h
    rw [if_pos h]
/-- Values of a row, all rows not too long. -/
def Mvs (w : World) (lo : Nat) (a : Option Addr) (xs : List MV) : Prop := IsMvs (IsMv w lo w.heap.size) w lo w.heap.size a xs ∧ ∀ x ∈ xs, x.row.length ≤ 1048576
theorem Mvs.kept {w w' : World} {lo : Nat} {a : Option Addr} {xs : List MV} (h : Mvs w lo a xs) (hb : Below w.heap.size w w') : Mvs w' lo a xs := ⟨h.1.kept hb hb.size, h.2⟩
theorem Mvs.cells {w : World} {lo : Nat} {a : Option Addr} {xs : List MV} (h : Mvs w lo a xs) (h0 : xs ≠ []) : ∃ b off : Nat, a = some ⟨b, off, none⟩ ∧ b < w.heap.size ∧ ∀ j (hj : j < xs.length), CellsMv w lo b (off + j * 3) xs[j] := by
  rcases h.1 with h1 | ⟨b, off, h1, hl, hn, hcs⟩
  · exact absurd h1 h0
  refine ⟨b, off, h1, hn, fun j hj => ?_⟩
  obtain ⟨c0, c1, c2, d0, d1, d2, aa, ca, hv, hz, hi⟩ := hcs j hj
  simp only [Value.agg.injEq, Array.mk.injEq, List.cons.injEq] at hv
  obtain ⟨rfl, rfl, rfl, -⟩ := hv
  exact ⟨aa, ca, d0, d1, d2, h.2 _ (List.getElem_mem hj), hi⟩
theorem Mvs.one {w : World} {lo : Nat} {a : Option Addr} {x : MV} (h : Mvs w lo a [x]) : ∃ b off : Nat, a = some ⟨b, off, none⟩ ∧ b < w.heap.size ∧ CellsMv w lo b off x := by
  obtain ⟨b, off, h1, h2, h3⟩ := h.cells (by simp)
  exact ⟨b, off, h1, h2, h3 0 (by simp)⟩
theorem Mvs.two {w : World} {lo : Nat} {a : Option Addr} {x y : MV} (h : Mvs w lo a [x, y]) : ∃ b off : Nat, a = some ⟨b, off, none⟩ ∧ b < w.heap.size ∧ CellsMv w lo b off x ∧ CellsMv w lo b (off + 3) y := by
  obtain ⟨b, off, h1, h2, h3⟩ := h.cells (by simp)
  exact ⟨b, off, h1, h2, h3 0 (by simp), h3 1 (by simp)⟩
theorem Mvs.three {w : World} {lo : Nat} {a : Option Addr} {x y z : MV} (h : Mvs w lo a [x, y, z]) : ∃ b off : Nat, a = some ⟨b, off, none⟩ ∧ b < w.heap.size ∧ CellsMv w lo b off x ∧ CellsMv w lo b (off + 3) y ∧ CellsMv w lo b (off + 6) z := by
  obtain ⟨b, off, h1, h2, h3⟩ := h.cells (by simp)
  exact ⟨b, off, h1, h2, h3 0 (by simp), h3 1 (by simp), h3 2 (by simp)⟩
theorem fit_len {n : Nat} {xs : List MV} (h : fitB n xs = true) : n ≠ 0 ∧ xs.length = (tpArgs n).length := by
  unfold fitB at h
  rw [Bool.and_eq_true, decide_eq_true_eq, decide_eq_true_eq] at h
  exact ⟨h.1, by rw [← h.2]; simp⟩
theorem len_one {xs : List MV} (h : xs.length = 1) : ∃ x, xs = [x] := by
  match xs, h with
  | [x], _ => exact ⟨x, rfl⟩
theorem len_two {xs : List MV} (h : xs.length = 2) : ∃ x y, xs = [x, y] := by
  match xs, h with
  | [x, y], _ => exact ⟨x, y, rfl⟩
theorem len_three {xs : List MV} (h : xs.length = 3) : ∃ x y z, xs = [x, y, z] := by
  match xs, h with
  | [x, y, z], _ => exact ⟨x, y, z, rfl⟩
theorem fit_no {n : Nat} {xs : List MV} {k : Nat} (hk : k < xs.length) (hl : xs.length = (tpArgs n).length) (hne : xs[k].kind ≠ (tpArgs n)[k]'(by omega)) : fitB n xs = false := by
  unfold fitB
  rw [Bool.and_eq_false_iff]
  right
  rw [decide_eq_false_iff_not]
  intro e
  apply hne
  have : (xs.map MV.kind)[k]'(by simpa using hk) = (tpArgs n)[k]'(by omega) := by simp only [e]
  rw [← this, List.getElem_map]
theorem fit_yes {n : Nat} {xs : List MV} (h0 : n ≠ 0) (hl : xs.length = (tpArgs n).length) (h : ∀ k (hk : k < xs.length), xs[k].kind = (tpArgs n)[k]'(by omega)) : fitB n xs = true := by
  unfold fitB
  rw [Bool.and_eq_true, decide_eq_true_eq, decide_eq_true_eq]
  refine ⟨h0, List.ext_getElem (by simpa using hl) (fun k h1 h2 => ?_)⟩
  rw [List.getElem_map]
  exact h k (by simpa using h1)

set_option maxRecDepth 100000 in
set_option maxHeartbeats 2000000 in
theorem l6Fits_any (s : ByteArray) (lo : Nat) (a : Option Addr) (cap : Nat) (xs : List MV) (w : World) (h : Mvs w lo a xs) (hl : xs.length ≤ 1048576) :
    Calls Try.prog 23 #[.string s, .slice a xs.length cap] w fun e w' => e = .returned (.bool (fitB (primN s.toList) xs)) ∧ Below w.heap.size w w' := by
  have HT := hide (TypePrimS_any s w)
  obtain ⟨n, hn⟩ : ∃ n, primN s.toList = n := ⟨_, rfl⟩
  have hn16 : n ≤ 16 := by rw [← hn]; exact primN_le _
  rw [hn] at HT ⊢
  have hargs := tpArgs_len n
  have htr := tpRes_ne n
  obtain ⟨R, hR⟩ : ∃ R, fitB n xs = R := ⟨_, rfl⟩
  rw [hR]
  have HK := hide h
  clear h hn
  go_enter Try.func23, Try.ntmps23
  go_wp2_with fail
  refine (unhide HT).mono ?_
  rintro r w2 ⟨v, rfl, ho, hb⟩
  obtain ⟨aw, cw, rfl, hi⟩ := ho.ints
  have HI := hide hi
  have HB := hide hb
  have HK2 := hide ((unhide HK).kept hb)
  clear ho hi hb HT
  by_cases h0 : n = 0
  · have ht : tpRes n = 0 := htr.2 h0
    have HX : Hid (R = false) := hide (by rw [← hR]; unfold fitB; simp [h0])
    rw [ht]
    clear hR htr ht h0
    obtain ⟨A, hA⟩ : ∃ A, (tpArgs n).length = A := ⟨_, rfl⟩
    rw [hA] at hargs ⊢
    go_wp2
    go_ret
    exact ⟨ret_bool (unhide HX).symm, unhide HB⟩
  have ht : tpRes n ≠ 0 := fun e => h0 (htr.1 e)
  obtain ⟨T, hT⟩ : ∃ T, tpRes n = T := ⟨_, rfl⟩
  rw [hT] at ht ⊢
  have hTT : (T == 0) = false := by simpa using ht
  by_cases hln : xs.length = (tpArgs n).length
  · have HYES := hide (fun h => hR.symm.trans (fit_yes h0 hln h))
    have HNO := hide (fun k (hk : k < xs.length) hne => hR.symm.trans (fit_no hk hln hne))
    have HLN := hide hln
    obtain ⟨zs, hz⟩ : ∃ zs, tpArgs n = zs := ⟨_, rfl⟩
    have HYES2 : Hid ((∀ k (hk : k < xs.length) (hk2 : k < zs.length), xs[k].kind = zs[k]) → R = true) := hide (fun h => by subst hz; exact unhide HYES (fun k hk => h k hk (by omega)))
    have HNO2 : Hid (∀ k (hk : k < xs.length) (hk2 : k < zs.length), xs[k].kind ≠ zs[k] → R = false) := hide (fun k hk hk2 hne => by subst hz; exact unhide HNO k hk hne)
    rw [hz] at hargs hln HI ⊢
    clear HYES HNO HLN hz hR htr hT ht
    rw [← hln] at hargs ⊢
    have hq : ((xs.length : Int) != (xs.length : Int)) = false := by simp
    go_wp2
    go_loopw [7] (fun i wr => ∃ k m : Nat, k ≤ xs.length ∧ i = .int .i64 k ∧ wr = w2.drewN m ∧ Hid (∀ j (hj : j < xs.length) (hj2 : j < zs.length), j < k → xs[j].kind = zs[j])) (fun i _ => xs.length - (intOf i).toNat)
    case atStart => exact ⟨0, 0, Nat.zero_le _, rfl, rfl, hide (fun j _ _ hj => absurd hj (Nat.not_lt_zero _))⟩
    case round =>
      obtain ⟨k, m, hk, rfl, rfl, HD⟩ := hrel
      by_cases hp : k < xs.length
      · obtain ⟨b, off, rfl, hbn, hcs⟩ := (unhide HK2).cells (by intro e; rw [e] at hp; simp at hp)
        obtain ⟨aa, ca, d0, d1, d2, d3, d4⟩ := hcs k hp
        rcases unhide HI with hq0 | ⟨bb, oo, rfl, hbl2, hbn2, hcs2⟩
        · rw [hq0] at hln; simp at hln; rw [hln] at hp; simp at hp
        have hc2 := hcs2 k (by omega)
        have HNK := hide (unhide HNO2 k hp (by omega))
        obtain ⟨x, hx⟩ : ∃ x, xs[k].kind = x := ⟨_, rfl⟩
        obtain ⟨y, hy⟩ : ∃ y, zs[k]'(by omega) = y := ⟨_, rfl⟩
        rw [hx] at d0 HNK
        rw [hy] at hc2 HNK
        clear hcs hcs2 d1 d2 d3 d4
        have HXY := hide (And.intro hx hy)
        clear hx hy
        by_cases hxy : x = y
        · subst hxy
          have he : (x != x) = false := by simp
          clear HNK
          go_wp2
          go_region
          go_wp2
          go_roundw
          case rel =>
            refine ⟨k + 1, _, by omega, by go_num, rfl, hide (fun j hj hj2 hjk => ?_)⟩
            by_cases e : j = k
            · subst e
              rw [(unhide HXY).1]
              exact (unhide HXY).2.symm
            · exact unhide HD j hj hj2 (by omega)
          case measure => simp [intOf]; omega
        · have he : (x != y) = true := by simpa using hxy
          have HX := hide (unhide HNK hxy)
          go_wp2
          go_region
          go_wp2
          go_ret
          exact ⟨ret_bool (unhide HX).symm, below_drewN (unhide HB) _⟩
      · have HX : Hid (R = true) := hide (unhide HYES2 (fun k' hk' hk2 => unhide HD k' hk' hk2 (by omega)))
        go_wp2
        go_ret
        exact ⟨ret_bool (unhide HX).symm, below_drewN (unhide HB) _⟩
  · have HX : Hid (R = false) := hide (by
      rw [← hR]
      cases hc : fitB n xs
      · rfl
      · exact absurd (fit_len hc).2 hln)
    obtain ⟨A, hA⟩ : ∃ A, (tpArgs n).length = A := ⟨_, rfl⟩
    rw [hA] at hargs hln ⊢
    have hq : ((A : Int) != (xs.length : Int)) = true := by simp; omega
    clear hR htr
    go_wp2
    go_ret
    exact ⟨ret_bool (unhide HX).symm, unhide HB⟩
end Go.Proofs.Ytjnahhalgckggaa
