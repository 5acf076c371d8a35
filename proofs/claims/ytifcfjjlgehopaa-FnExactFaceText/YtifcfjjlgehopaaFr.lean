/- The text of a face; the walks of spec.l3Types and spec.FaceText. Conditions: the face can be read. -/
import Derived.Test.YtifcfjjlgehopaaFn
import Derived.Test.YtifcfjjlgehopaaSh
namespace Go.Proofs.Ytifcfjjlgehopaa
open Go.RowKit Go.PlainAid

def tyC (t : Int) : List UInt8 := (typeW t).data.toList
def tyL (zs : List Int) : List UInt8 := Lib.join (zs.map tyC) [44]
def lnL (s : TS) : List UInt8 := key s ++ (40 :: (tyL s.args ++ (41 :: (tyC s.type ++ [10]))))
def txL (l : List TS) : List UInt8 := l.flatMap lnL
theorem tyL_one (t : Int) : tyL [t] = tyC t := Lib.join_one _ _
theorem tyL_snoc (z : Int) (r : List Int) (t : Int) : tyL ((z :: r) ++ [t]) = tyL (z :: r) ++ 44 :: tyC t := by
  show Lib.join (tyC z :: (r ++ [t]).map tyC) [44] = Lib.join (tyC z :: r.map tyC) [44] ++ 44 :: tyC t
  rw [Lib.join_cons, Lib.join_cons]
  simp [Lib.joinTail]
theorem bytes_of {a : ByteArray} {l : List UInt8} (h : a.data.toList = l) : a = ⟨l.toArray⟩ := by
  obtain ⟨⟨x⟩⟩ := a
  simp at h
  rw [← h]
theorem tyC_len (t : Int) : (tyC t).length ≤ 4 := by
  unfold tyC typeW
  split
  · decide
  · split
    · decide
    · split <;> decide

set_option maxHeartbeats 1000000 in
theorem l3Types_any (lo : Nat) (a : Option Addr) (cap : Nat) (zs : List Int) (w : World) (h : IsInts w lo w.heap.size a zs) (hl : zs.length ≤ 4) :
    Calls Try.prog 26 #[.slice a zs.length cap] w fun r w' => r = .returned (.string ⟨(tyL zs).toArray⟩) ∧ Below w.heap.size w w' := by
  have HW := hide h
  clear h
  go_enter Try.func26, Try.ntmps26
  go_wp2
  go_loopw [3, 4] (fun o i wr => ∃ (k : Nat) (out : ByteArray), k ≤ zs.length ∧ i = .int .i64 k ∧ o = .string out ∧ out.size ≤ 100 ∧ Hid (out.data.toList = tyL (zs.take k) ∧ out.size ≤ k * 5) ∧ Hid (Below w.heap.size w wr)) (fun _ i _ => zs.length - (intOf i).toNat)
  case atStart => exact ⟨0, ⟨#[]⟩, Nat.zero_le _, rfl, rfl, by decide, hide ⟨rfl, by decide⟩, hide (Below.refl _ _)⟩
  case round =>
    obtain ⟨k, out, hk, rfl, rfl, ho, HO, HB⟩ := hrel
    by_cases hp : k < zs.length
    · rcases (unhide HW).kept (unhide HB) (Nat.le_refl _) with h | ⟨b, off, rfl, hbl, hb, hc⟩
      · rw [h] at hp; simp at hp
      have hck := hc k hp
      have htk : zs.take (k + 1) = zs.take k ++ [zs[k]] := List.take_succ_eq_append_getElem hp
      obtain ⟨x, hx⟩ : ∃ x, zs[k]'hp = x := ⟨_, rfl⟩
      rw [hx] at hck htk
      have HTK := hide htk
      have hT : (typeW x).size ≤ 4 := by have := tyC_len x; simpa [tyC] using this
      clear hc hx htk
      by_cases h0 : k = 0
      · have hk0 : ¬ 0 < k := by omega
        have HO2 : Hid ((out ++ typeW x).data.toList = tyL (zs.take (k + 1)) ∧ (out ++ typeW x).size ≤ (k + 1) * 5) := hide (by
          obtain ⟨h1, h2⟩ := unhide HO
          refine ⟨?_, by rw [ByteArray.size_append]; omega⟩
          rw [unhide HTK, ByteArray.data_append, Array.toList_append, h1, h0]
          show tyL [] ++ tyC x = tyL ([] ++ [x])
          rw [List.nil_append, tyL_one]
          rfl)
        clear h0
        go_wp2_with fail
        refine (TreeTypeS_any _ _).mono ?_
        rintro r w2 ⟨rfl, hb2⟩
        have HB2 := hide ((unhide HB).trans (hb2.mono (unhide HB).size))
        clear hb2 hck
        go_wp2
        go_roundw
        case rel => exact ⟨k + 1, _, by omega, by go_num, rfl, by have := (unhide HO2).2; omega, HO2, HB2⟩
        case measure => simp [intOf] <;> omega
      · have hkp : 0 < k := by omega
        have HO2 : Hid (((out ++ ⟨#[44]⟩) ++ typeW x).data.toList = tyL (zs.take (k + 1)) ∧ ((out ++ ⟨#[44]⟩) ++ typeW x).size ≤ (k + 1) * 5) := hide (by
          obtain ⟨h1, h2⟩ := unhide HO
          refine ⟨?_, by rw [ByteArray.size_append, ByteArray.size_append]; show out.size + 1 + _ ≤ _; omega⟩
          rw [unhide HTK, ByteArray.data_append, Array.toList_append, ByteArray.data_append, Array.toList_append, h1]
          cases zs with
          | nil => simp at hp
          | cons z r =>
            obtain ⟨m, rfl⟩ : ∃ m, k = m + 1 := ⟨k - 1, by omega⟩
            rw [List.take_succ_cons, tyL_snoc]
            simp [tyC])
        clear h0
        go_wp2_with fail
        refine (TreeTypeS_any _ _).mono ?_
        rintro r w2 ⟨rfl, hb2⟩
        have HB2 := hide ((unhide HB).trans (hb2.mono (unhide HB).size))
        clear hb2 hck
        go_wp2
        go_roundw
        case rel => exact ⟨k + 1, _, by omega, by go_num, rfl, by have := (unhide HO2).2; omega, HO2, HB2⟩
        case measure => simp [intOf] <;> omega
    · have HE : Hid (out = ⟨(tyL zs).toArray⟩) := hide (bytes_of (by rw [(unhide HO).1, List.take_of_length_le (by omega)]))
      go_wp2
      go_ret
      exact ⟨ret_strT (unhide HE), unhide HB⟩
theorem tyL_len (zs : List Int) (h1 : zs.length ≤ 4) : (tyL zs).length ≤ 20 := by
    have : ∀ zs : List Int, (Lib.joinTail [44] (zs.map tyC)).length ≤ 5 * zs.length := by
      intro zs
      induction zs with
      | nil => simp [Lib.joinTail]
      | cons z r ih =>
        have := tyC_len z
        simp only [Lib.joinTail, List.map_cons, List.flatten_cons, List.length_append, List.length_cons, List.length_nil] at ih ⊢
        omega
    cases zs with
    | nil => decide
    | cons z r =>
      show (Lib.join (tyC z :: r.map tyC) [44]).length ≤ 20
      rw [Lib.join_cons, List.length_append]
      have e1 := tyC_len z
      have e2 := this r
      simp at h1
      omega
theorem lnL_len {s : TS} (h : s.ok = true) : (lnL s).length ≤ 100 := by
  obtain ⟨h1, h2⟩ := ok_args h
  have h3 := tyL_len s.args h1
  have h4 := tyC_len s.type
  have h5 : (key s).length ≤ 8 := by simpa [key] using h2
  unfold lnL
  simp only [List.length_append, List.length_cons, List.length_nil]
  omega
theorem txL_snoc (l : List TS) (s : TS) : txL (l ++ [s]) = txL l ++ lnL s := by simp [txL]

set_option maxRecDepth 100000 in
set_option maxHeartbeats 2000000 in
theorem FaceTextS_any (lo : Nat) (a : Option Addr) (cap : Nat) (l : List TS) (w : World) (hk : IsSigs (IsSig w lo w.heap.size) w lo w.heap.size a l) (hl : l.length ≤ maxLen) :
    Calls Try.prog 11 #[.slice a l.length cap] w fun r w' => r = .returned (.string (if faceB l = true then ⟨(txL l).toArray⟩ else ⟨#[]⟩)) ∧ Below w.heap.size w w' := by
  have HK := hide hk
  have HOK := hide (FaceOkS_any lo a cap l w hk hl)
  clear hk
  by_cases hg : ¬ Good l
  · have hf := faceB_no hg
    rw [hf] at HOK ⊢
    rw [if_neg (by simp)]
    go_enter Try.func11, Try.ntmps11
    go_wp2_with fail
    refine (unhide HOK).mono ?_
    rintro r w2 ⟨rfl, hb2⟩
    go_wp2
    go_ret
    exact ⟨rfl, hb2⟩
  replace hg := Classical.not_not.1 hg
  have hf := faceB_yes hg
  rw [hf] at HOK ⊢
  rw [if_pos rfl]
  have h8 : l.length ≤ 8 := hg.1
  have HG := hide hg
  clear hf hg hl
  go_enter Try.func11, Try.ntmps11
  go_wp2_with fail
  refine (unhide HOK).mono ?_
  rintro r w2 ⟨rfl, hb2⟩
  have HB0 := hide hb2
  clear hb2 HOK
  go_wp2
  go_loopw [3, 4] (fun o i wr => ∃ (k : Nat) (out : ByteArray), k ≤ l.length ∧ i = .int .i64 k ∧ o = .string out ∧ out.size ≤ 1000 ∧ Hid (out.data.toList = txL (l.take k) ∧ out.size ≤ k * 100) ∧ Hid (Below w.heap.size w wr)) (fun _ i _ => l.length - (intOf i).toNat)
  case atStart => exact ⟨0, ⟨#[]⟩, Nat.zero_le _, rfl, rfl, by decide, hide ⟨rfl, by decide⟩, HB0⟩
  case round =>
    obtain ⟨k, out, hk, rfl, rfl, ho, HO, HB⟩ := hrel
    by_cases hp : k < l.length
    · rcases (unhide HK).kept (unhide HB) (unhide HB).size with hq | ⟨b, off, rfl, hbl, hbn, hcs⟩
      · rw [hq] at hp; simp at hp
      obtain ⟨c0, c1, c2, d0, d1, d2, hr⟩ := hcs k hp
      have hok := (unhide HG).2.1 k hp
      have htk : l.take (k + 1) = l.take k ++ [l[k]] := List.take_succ_eq_append_getElem hp
      obtain ⟨s, hs⟩ : ∃ s, l[k]'hp = s := ⟨_, rfl⟩
      rw [hs] at hr hok htk
      obtain ⟨aa, ca, hv, hzz, haa⟩ := hr
      simp only [Value.agg.injEq, Array.mk.injEq, List.cons.injEq, and_true] at hv
      obtain ⟨rfl, rfl, rfl⟩ := hv
      obtain ⟨h4, h8n⟩ := ok_args hok
      have HLN := hide (lnL_len hok)
      have HQ1 := hide (Calls.bel (fun (W : World) (hb : Below wr.heap.size wr W) => l3Types_any lo aa ca s.args W (haa.kept hb hb.size) h4))
      have HQ2 := hide (Calls.bel (fun (W : World) (_ : Below wr.heap.size wr W) => TreeTypeS_any s.type W))
      have z0 := Bel.cell (a := ⟨b, off + k * 3, none⟩) hbn d0
      have z1 := Bel.cell (a := ⟨b, off + k * 3 + 1, none⟩) hbn d1
      have z2 := Bel.cell (a := ⟨b, off + k * 3 + 2, none⟩) hbn d2
      obtain ⟨T, hT⟩ : ∃ T : ByteArray, T = ⟨(tyL s.args).toArray⟩ := ⟨_, rfl⟩
      rw [← hT] at HQ1
      obtain ⟨o1, g1⟩ : ∃ o1, out ++ s.name = o1 := ⟨_, rfl⟩
      obtain ⟨o2, g2⟩ : ∃ o2, o1 ++ ⟨#[40]⟩ = o2 := ⟨_, rfl⟩
      obtain ⟨o3, g3⟩ : ∃ o3, o2 ++ T = o3 := ⟨_, rfl⟩
      obtain ⟨o4, g4⟩ : ∃ o4, o3 ++ ⟨#[41]⟩ = o4 := ⟨_, rfl⟩
      obtain ⟨o5, g5⟩ : ∃ o5, o4 ++ typeW s.type = o5 := ⟨_, rfl⟩
      obtain ⟨o6, g6⟩ : ∃ o6, o5 ++ ⟨#[10]⟩ = o6 := ⟨_, rfl⟩
      have HO2 : Hid (o6.data.toList = txL (l.take (k + 1)) ∧ o6.size ≤ (k + 1) * 100) := hide (by
        obtain ⟨h1, h2⟩ := unhide HO
        have e : o6.data.toList = txL (l.take (k + 1)) := by
          rw [htk, txL_snoc, ← h1, ← g6, ← g5, ← g4, ← g3, ← g2, ← g1, hT]
          simp [lnL, key, tyC, ByteArray.data_append]
        refine ⟨e, ?_⟩
        have e2 := congrArg List.length e
        rw [htk, txL_snoc, List.length_append, ← h1] at e2
        have e3 := unhide HLN
        simp only [Array.length_toList] at e2
        show o6.data.size ≤ _
        have e4 : out.data.size = out.size := rfl
        omega)
      have hI : Nonempty (Bel wr) := ⟨⟨wr, Below.refl _ _⟩⟩
      have hts : T.size ≤ 100 := by
        rw [hT]
        have := unhide HLN
        unfold lnL at this
        simp only [List.length_append, List.length_cons] at this
        show (tyL s.args).toArray.size ≤ 100
        simp; omega
      have hty : (typeW s.type).size ≤ 4 := by have := tyC_len s.type; simpa [tyC] using this
      have s1 : o1.size = out.size + s.name.size := by rw [← g1, ByteArray.size_append]
      have s2 : o2.size = o1.size + 1 := by rw [← g2, ByteArray.size_append]; rfl
      have s3 : o3.size = o2.size + T.size := by rw [← g3, ByteArray.size_append]
      have s4 : o4.size = o3.size + 1 := by rw [← g4, ByteArray.size_append]; rfl
      have s5 : o5.size = o4.size + (typeW s.type).size := by rw [← g5, ByteArray.size_append]
      have k1 : ¬ 9223372036854775807 < out.size + s.name.size := by omega
      have k2 : ¬ 9223372036854775807 < o1.size + 1 := by omega
      have k3 : ¬ 9223372036854775807 < o2.size + T.size := by omega
      have k4 : ¬ 9223372036854775807 < o3.size + 1 := by omega
      have k5 : ¬ 9223372036854775807 < o4.size + (typeW s.type).size := by omega
      have k6 : ¬ 9223372036854775807 < o5.size + 1 := by omega
      clear hcs hs htk hzz haa hT s1 s2 s3 s4 s5 hts hty
      go_wp2
      refine wp_region_bel (by kernel_rfl) (by kernel_rfl) ?_
      repeat (refine WQ.step (fun K hK => ?_); go_simp; first | (refine hK _ ?_; clear hK K) | (refine ⟨_, fun p => unhide HQ1 p, hK _ ?_⟩; clear hK K) | (refine ⟨_, fun p => unhide HQ2 p, hK _ ?_⟩; clear hK K))
      refine WQ.nil ?_
      rintro _ ⟨⟨w3, hb3⟩, rfl⟩
      have HB3 := hide ((unhide HB).trans (hb3.mono (unhide HB).size))
      clear hb3 HB d0 d1 d2 z0 z1 z2
      go_wp2
      go_roundw
      case rel => exact ⟨k + 1, _, by omega, by go_num, rfl, by have := (unhide HO2).2; omega, HO2, HB3⟩
      case measure => simp [intOf] <;> omega
    · have HE : Hid (out = ⟨(txL l).toArray⟩) := hide (bytes_of (by rw [(unhide HO).1, List.take_of_length_le (by omega)]))
      go_wp2
      go_ret
      exact ⟨ret_strT (unhide HE), unhide HB⟩
end Go.Proofs.Ytifcfjjlgehopaa
