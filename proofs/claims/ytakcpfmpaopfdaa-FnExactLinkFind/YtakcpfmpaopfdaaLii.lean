/- The walk of impl.linkTableOf. Conditions: the parts can be read, and weigh at most 2^20. -/
import Derived.Test.YtakcpfmpaopfdaaLih
import Derived.Deep.RegionHeld3
namespace Go.Proofs.Ytakcpfmpaopfdaa
open Go.RowKit Go.PlainAid

theorem allN_at (l : List TP) (k : Nat) (h : k < l.length) : entP l k = if ahead l k l[k].name then [] else ents l[k].name (baseL l k) l[k].obj.funs := by
  unfold entP; rw [List.getElem?_eq_getElem h]
/-- What the table is told of a part's first functions. -/
def Ej (A : Bool) (L : List TN) (j : Nat) : List TN := if A then [] else L.take j
theorem Ej_zero (A : Bool) (L : List TN) : Ej A L 0 = [] := by cases A <;> rfl
theorem Ej_step {L : List TN} {j : Nat} {e : TN} (h : L.take (j + 1) = L.take j ++ [e]) : Ej true L (j + 1) = Ej true L j ∧ Ej false L (j + 1) = Ej false L j ++ [e] := ⟨rfl, h⟩
theorem Ej_all {A : Bool} {L : List TN} {j : Nat} (h : L.length ≤ j) : Ej A L j = if A then [] else L := by
  cases A
  · exact List.take_of_length_le h
  · rfl
set_option maxRecDepth 100000 in
set_option maxHeartbeats 4000000 in
theorem linkTableOf_any (lo : Nat) (a : Option Addr) (cap : Nat) (l : List TP) (w : World) (h : Parts w lo a l) (hlc : l.length ≤ cap) (hcp : cap ≤ maxLen) (hw : wtPas l ≤ 1048576) :
    Calls Try.prog 14 #[.slice a l.length cap] w fun r w' => ∃ (b : Nat) (T : List TN), r = .returned (.map (some b)) ∧ Tbl w' b T ∧ Knows T (allN l l.length) ∧ w.heap.size ≤ b ∧ Below w.heap.size w w' := by
  have HNM := hide (fun (k : Nat) (hk : k ≤ l.length) (W : World) (hb : Below w.heap.size w W) (md : ByteArray) => linkNamed_any lo a cap (l.take k) md W (by
    have := h.kept hb hb.size
    rcases this with h0 | ⟨b, off, h1, h2, h3, h4⟩
    · left; rw [h0]; simp
    · right
      refine ⟨b, off, h1, h2, h3, fun j hj => ?_⟩
      rw [List.length_take] at hj
      obtain ⟨c0, c1, c2, d0, d1, d2, hr⟩ := h4 j (by omega)
      exact ⟨c0, c1, c2, d0, d1, d2, by rw [List.getElem_take]; exact hr⟩) (by rw [List.length_take]; omega))
  have HW := hide (fun (W : World) (hb : Below w.heap.size w W) => h.kept hb hb.size)
  have HBL := hide (fun k => Nat.le_trans (base_le l k) hw)
  unfold maxLen at hcp
  clear h hw
  have hmm := @run_makeMap Try.prog
  have hM : Tbl (w.alloc (.map #[] 0)) w.heap.size [] := ⟨#[], 0, by show (w.heap.push (Obj.map #[] 0))[w.heap.size]? = _; simp, rfl⟩
  go_enter Try.func14, Try.ntmps14
  go_wp2
  clear hmm
  obtain ⟨B, hBe⟩ : ∃ B, w.heap.size = B := ⟨_, rfl⟩
  obtain ⟨W0, hW0⟩ : ∃ W0, W0 = w.alloc (.map #[] 0) := ⟨_, rfl⟩
  have hB0 : Below B w W0 := by rw [hW0, ← hBe]; exact (Below.refl _ _).alloc (Nat.le_refl _) _
  have hz0 : B < W0.heap.size := by rw [hW0, ← hBe]; simp
  rw [hBe] at hM HNM HW ⊢
  rw [← hW0] at hM ⊢
  have HM := hide hM
  have HB0 := hide hB0
  have HBE := hide hBe
  clear hW0 hM hB0 hBe hz0
  go_loopw [4, 5, 7, 16] (fun n _ _ i wr => ∃ (k N : Nat) (T : List TN), k ≤ l.length ∧ i = .int .i64 k ∧ n = .int .i64 N ∧ N ≤ 1048576 ∧ Hid (N = baseL l k) ∧ Hid (Tbl wr B T) ∧ Hid (Knows T (allN l k)) ∧ Hid (Below B w wr)) (fun _ _ _ i _ => l.length - (intOf i).toNat)
  case atStart => exact ⟨0, 0, [], Nat.zero_le _, rfl, rfl, by omega, hide (by simp [baseL]), HM, hide (fun r => by simp [allN]), HB0⟩
  case round =>
    obtain ⟨k, N, T, hk, rfl, rfl, hN, HN, HT, HK, HB⟩ := hrel
    by_cases hp : k < l.length
    · rcases unhide HW w (Below.refl _ _) with hq | ⟨b, off, rfl, hbl, hbn, hcs⟩
      · rw [hq] at hp; simp at hp
      obtain ⟨c0, c1, c2, d0, d1, d2, hr⟩ := hcs k hp
      have HST := hide (base_step l k hp)
      have HAE := hide (allN_step l k)
      have HEP := hide (allN_at l k hp)
      have hb1 := unhide HBL (k + 1)
      rw [unhide HST, ← unhide HN] at hb1
      have HCN := hide (unhide HNM k (by omega))
      have htl : (l.take k).length = k := by rw [List.length_take]; omega
      rw [htl] at HCN
      obtain ⟨x, hx⟩ : ∃ x, l[k]'hp = x := ⟨_, rfl⟩
      rw [hx] at hr HST HEP hb1
      obtain ⟨aa, ca, ba, cb, hv, _, ho⟩ := hr
      simp only [Value.agg.injEq, Array.mk.injEq, List.cons.injEq, and_true] at hv
      obtain ⟨rfl, rfl, rfl⟩ := hv
      obtain ⟨a1, k1, a2, k2, hv2, ⟨hz1, hz2⟩, _, hfs⟩ := ho
      simp only [Value.agg.injEq, Array.mk.injEq, List.cons.injEq, Value.slice.injEq, and_true, true_and] at hv2
      obtain ⟨⟨rfl, rfl⟩, rfl, rfl⟩ := hv2
      unfold maxLen at hz2
      obtain ⟨nm, obj⟩ := x
      obtain ⟨refs, funs⟩ := obj
      dsimp only at hz2 hfs HST HEP hb1 d0 d1 d2 ⊢
      have HFS := hide hfs
      have p0 : wr.cell? ⟨b, off + k * 3, none⟩ = some (.string nm) := ((unhide HB).cell (p := ⟨b, off + k * 3, none⟩) (by show b < B; have := unhide HBE; omega)).trans d0
      have p1 : wr.cell? ⟨b, off + k * 3 + 1, none⟩ = some (.slice aa refs.length ca) := ((unhide HB).cell (p := ⟨b, off + k * 3 + 1, none⟩) (by show b < B; have := unhide HBE; omega)).trans d1
      have p2 : wr.cell? ⟨b, off + k * 3 + 2, none⟩ = some (.slice ba funs.length cb) := ((unhide HB).cell (p := ⟨b, off + k * 3 + 2, none⟩) (by show b < B; have := unhide HBE; omega)).trans d2
      have HBP : Hid (∀ W, W = wr.alloc (.cells #[.string nm, .slice aa refs.length ca, .slice ba funs.length cb] 44) → B < wr.heap.size ∧ W.heap.size = wr.heap.size + 1 ∧ Below B w W ∧ Tbl W B T ∧ Blk W wr.heap.size [.string nm, .slice aa refs.length ca, .slice ba funs.length cb]) := hide (fun W h => by
        have h1 := (unhide HT).lt
        refine ⟨h1, by rw [h]; simp, by rw [h]; exact (unhide HB).alloc (by omega) _, (unhide HT).kept (by rw [h]; exact ((Below.refl wr.heap.size wr).alloc (Nat.le_refl _) _).block B h1), by rw [h]; exact Blk.new wr _ _⟩)
      clear hcs hx hfs d0 d1 d2
      go_wp2
      obtain ⟨W, hW⟩ : ∃ W, W = wr.alloc (.cells #[.string nm, .slice aa refs.length ca, .slice ba funs.length cb] 44) := ⟨_, rfl⟩
      obtain ⟨hPB, hWs, hBW, hTW, hblk⟩ := unhide HBP W hW
      obtain ⟨P, hPe⟩ : ∃ P, wr.heap.size = P := ⟨_, rfl⟩
      rw [← hW]
      rw [hPe] at hPB hWs hblk ⊢
      have HSK := hide (fun (w' : World) (hb : Below W.heap.size W w') => ((hblk.below hb (by omega)).cellAt (i := 0) rfl : w'.cell? ⟨P, 0, none⟩ = some (.string nm)))
      have HBW := hide hBW
      have HTW := hide hTW
      have HPB := hide hPB
      have HWS := hide hWs
      have HPE := hide hPe
      have HBLK := hide hblk
      clear hW hPB hWs hBW hTW hblk hPe p0 p1 p2 HBP
      have hs0 : (0 : Int) ≤ (k : Int) := by omega
      have hs1 : (k : Int) ≤ (cap : Int) := by omega
      have hs2 : (k : Int) ≤ (l.length : Int) := by omega
      go_region_held3 (fun w' => w'.cell? ⟨P, 0, none⟩ = some (.string nm))
        (exact unhide HSK _ (by first | with_reducible exact q1 | with_reducible exact Below.refl _ _ | with_reducible exact (Below.refl _ _).drew))
        (first | (go_at_call 18; refine (unhide HCN _ (unhide HBW).drew nm).mono ?_; rintro r w2 ⟨rfl, hb2⟩; have q1 : Below W.heap.size W w2 := (Below.refl _ W).drew.trans hb2))
      have hx2 := (unhide HBLK).below q1 (by have := unhide HWS; omega)
      have HP0 := hide (hx2.cellAt (i := 0) rfl)
      have p2 := hx2.cellAt (i := 2) rfl
      have HB2 := hide ((unhide HBW).trans (q1.mono (by have := unhide HWS; have := unhide HPB; omega)))
      have HT2 := hide ((unhide HTW).kept (q1.block B (by have := unhide HWS; have := unhide HPB; omega)))
      have HPS := hide (show P < w2.heap.size by have := q1.size; have := unhide HWS; omega)
      obtain ⟨A, hA⟩ : ∃ A, (l.take k).any (isP nm) = A := ⟨_, rfl⟩
      have HA : Hid (ahead l k nm = A) := hide hA
      have hbF : N + funs.length ≤ 1048576 := hb1
      rw [hA]
      clear hx2 q1 hb2 HCN hA hb1 HBW HTW HSK
      go_wp2
      clear p2
      go_loopw [4, 9, 10, 11, 12, 32] (fun n _ _ _ _ i wr2 => ∃ (j M : Nat) (T2 : List TN), j ≤ funs.length ∧ i = .int .i64 j ∧ n = .int .i64 M ∧ M ≤ 1048576 ∧ Hid (M = N + j) ∧ Hid (Tbl wr2 B T2) ∧ Hid (Knows T2 (allN l k ++ Ej A (ents nm (baseL l k) funs) j)) ∧ Hid (Below B w wr2) ∧ Hid (wr2.cell? ⟨P, 0, none⟩ = some (.string nm)) ∧ Hid (P < wr2.heap.size)) (fun _ _ _ _ _ i _ => funs.length - (intOf i).toNat)
      case atStart => exact ⟨0, N, T, Nat.zero_le _, rfl, rfl, hN, hide rfl, HT2, hide (by rw [Ej_zero, List.append_nil]; exact unhide HK), HB2, HP0, HPS⟩
      case round =>
        obtain ⟨j, M, T2, hj, rfl, rfl, hM1, HM, HT, HK2, HB, HP0, HPS⟩ := hrel
        by_cases hq : j < funs.length
        · rcases unhide HFS with hq0 | ⟨b2, off2, rfl, hbl2, hbn2, hcs2⟩
          · rw [hq0] at hq; simp at hq
          obtain ⟨c0, c1, c2, c3, c4, c5, d0, d1, d2, d3, d4, d5, hr⟩ := hcs2 j hq
          have HTK := hide (Ej_step (ents_take nm (baseL l k) funs j hq))
          obtain ⟨y, hy⟩ : ∃ y, funs[j]'hq = y := ⟨_, rfl⟩
          rw [hy] at hr HTK
          obtain ⟨a3, k3, a4, k4, hv, _, _, _⟩ := hr
          simp only [Value.agg.injEq, Array.mk.injEq, List.cons.injEq, and_true] at hv
          obtain ⟨rfl, rfl, rfl, rfl, rfl, rfl⟩ := hv
          obtain ⟨fn, pub, args, ty, sl, code⟩ := y
          dsimp only at d0 d1 d2 d3 d4 d5 HTK
          have hbb : b2 < B := by have := unhide HBE; omega
          have p0 := ((unhide HB).cell (p := ⟨b2, off2 + j * 6, none⟩) hbb).trans d0
          have p1 := ((unhide HB).cell (p := ⟨b2, off2 + j * 6 + 1, none⟩) hbb).trans d1
          have p2 := ((unhide HB).cell (p := ⟨b2, off2 + j * 6 + 2, none⟩) hbb).trans d2
          have p3 := ((unhide HB).cell (p := ⟨b2, off2 + j * 6 + 3, none⟩) hbb).trans d3
          have p4 := ((unhide HB).cell (p := ⟨b2, off2 + j * 6 + 4, none⟩) hbb).trans d4
          have p5 := ((unhide HB).cell (p := ⟨b2, off2 + j * 6 + 5, none⟩) hbb).trans d5
          have hPr := unhide HPS
          have hMM : M + 1 ≤ 1048576 := by have := unhide HM; omega
          have HMN : Hid (M + 1 = N + (j + 1)) := hide (by have := unhide HM; omega)
          have hP0 := unhide HP0
          have hBr := (unhide HT).lt
          have HBR := hide hBr
          have hfa : ∀ o, Below wr.heap.size wr (wr.alloc o) := fun o => below_newL wr o
          have hlk := tbl_look (w := (wr.alloc (.cells #[.string fn, .bool pub, .slice a3 args.length k3, .int .i64 ty, .int .i64 sl, .slice a4 code.length k4] 60)).alloc (.cells #[.string nm, .string fn] 54)) ((unhide HT).kept (((below_newL wr _).alloc (by simp) _).block B hBr)) ⟨nm, fn⟩
          have HW3 : Hid (∀ (S : Obj) (W3 : World), W3 = ((wr.alloc (.cells #[.string fn, .bool pub, .slice a3 args.length k3, .int .i64 ty, .int .i64 sl, .slice a4 code.length k4] 60)).alloc (.cells #[.string nm, .string fn] 54)).alloc S → Below wr.heap.size wr W3) := hide (fun S W3 h => by rw [h]; exact ((below_newL wr _).alloc (by simp) _).alloc (by simp; omega) _)
          clear hcs2 hy d0 d1 d2 d3 d4 d5 hfa
          obtain ⟨O, hO⟩ : ∃ O, T2.find? (qR ⟨nm, fn⟩) = O := ⟨_, rfl⟩
          rw [hO] at hlk
          have HO := hide hO
          clear hO
          cases A with
          | true =>
            cases O with
            | none =>
              have hlk : (Instr.lookup 51 (.map (some B)) (.agg #[.string nm, .string fn]) true).run Try.prog _ = .ok (.tuple #[.agg #[.int .i64 0, .bool false], .bool false]) _ := hlk
              obtain ⟨W3, hW3⟩ : ∃ W3, W3 = ((wr.alloc (.cells #[.string fn, .bool pub, .slice a3 args.length k3, .int .i64 ty, .int .i64 sl, .slice a4 code.length k4] 60)).alloc (.cells #[.string nm, .string fn] 54)).alloc (.cells #[.int .i64 0, .bool false] 48) := ⟨_, rfl⟩
              have hb3 := unhide HW3 _ W3 hW3
              have HBN := hide ((unhide HB).trans (hb3.mono (by have := unhide HBR; omega)))
              have HTN := hide ((unhide HT).kept (hb3.block B (unhide HBR)))
              have HPN := hide ((hb3.cell (p := ⟨P, 0, none⟩) (unhide HPS)).trans hP0)
              have HPZ : Hid (P < wr.heap.size + 1 + 1 + 1) := hide (by have := unhide HPS; omega)
              clear hb3
              subst hW3
              go_wp2
              go_roundw
              case rel =>
                refine ⟨_, _, _, _, _, _, ?_, rfl, rfl, rfl, rfl, rfl, rfl⟩
                exact ⟨j + 1, by omega, by go_num, M + 1, by go_num, hMM, HMN, T2, HTN, hide (by rw [(unhide HTK).1]; exact unhide HK2)⟩
              case measure => simp [intOf] <;> omega
            | some t =>
              have hlk : (Instr.lookup 51 (.map (some B)) (.agg #[.string nm, .string fn]) true).run Try.prog _ = .ok (.tuple #[.agg #[.int .i64 (t.num : Int), .bool t.pub], .bool true]) _ := hlk
              obtain ⟨W3, hW3⟩ : ∃ W3, W3 = ((wr.alloc (.cells #[.string fn, .bool pub, .slice a3 args.length k3, .int .i64 ty, .int .i64 sl, .slice a4 code.length k4] 60)).alloc (.cells #[.string nm, .string fn] 54)).alloc (.cells #[.int .i64 (t.num : Int), .bool t.pub] 48) := ⟨_, rfl⟩
              have hb3 := unhide HW3 _ W3 hW3
              have HBN := hide ((unhide HB).trans (hb3.mono (by have := unhide HBR; omega)))
              have HTN := hide ((unhide HT).kept (hb3.block B (unhide HBR)))
              have HPN := hide ((hb3.cell (p := ⟨P, 0, none⟩) (unhide HPS)).trans hP0)
              have HPZ : Hid (P < wr.heap.size + 1 + 1 + 1) := hide (by have := unhide HPS; omega)
              clear hb3
              subst hW3
              go_wp2
              go_roundw
              case rel =>
                refine ⟨_, _, _, _, _, _, ?_, rfl, rfl, rfl, rfl, rfl, rfl⟩
                exact ⟨j + 1, by omega, by go_num, M + 1, by go_num, hMM, HMN, T2, HTN, hide (by rw [(unhide HTK).1]; exact unhide HK2)⟩
              case measure => simp [intOf] <;> omega
          | false =>
            cases O with
            | some t =>
              have hlk : (Instr.lookup 51 (.map (some B)) (.agg #[.string nm, .string fn]) true).run Try.prog _ = .ok (.tuple #[.agg #[.int .i64 (t.num : Int), .bool t.pub], .bool true]) _ := hlk
              obtain ⟨W3, hW3⟩ : ∃ W3, W3 = ((wr.alloc (.cells #[.string fn, .bool pub, .slice a3 args.length k3, .int .i64 ty, .int .i64 sl, .slice a4 code.length k4] 60)).alloc (.cells #[.string nm, .string fn] 54)).alloc (.cells #[.int .i64 (t.num : Int), .bool t.pub] 48) := ⟨_, rfl⟩
              have hb3 := unhide HW3 _ W3 hW3
              have HBN := hide ((unhide HB).trans (hb3.mono (by have := unhide HBR; omega)))
              have HTN := hide ((unhide HT).kept (hb3.block B (unhide HBR)))
              have HPN := hide ((hb3.cell (p := ⟨P, 0, none⟩) (unhide HPS)).trans hP0)
              have HPZ : Hid (P < wr.heap.size + 1 + 1 + 1) := hide (by have := unhide HPS; omega)
              clear hb3
              subst hW3
              go_wp2
              go_roundw
              case rel =>
                refine ⟨_, _, _, _, _, _, ?_, rfl, rfl, rfl, rfl, rfl, rfl⟩
                exact ⟨j + 1, by omega, by go_num, M + 1, by go_num, hMM, HMN, T2, HTN, hide (by rw [(unhide HTK).2, ← List.append_assoc]; exact (unhide HK2).had (e := ⟨⟨nm, fn⟩, baseL l k + j, pub⟩) (unhide HO))⟩
              case measure => simp [intOf] <;> omega
            | none =>
              have hlk : (Instr.lookup 51 (.map (some B)) (.agg #[.string nm, .string fn]) true).run Try.prog _ = .ok (.tuple #[.agg #[.int .i64 0, .bool false], .bool false]) _ := hlk
              obtain ⟨W3, hW3⟩ : ∃ W3, W3 = ((wr.alloc (.cells #[.string fn, .bool pub, .slice a3 args.length k3, .int .i64 ty, .int .i64 sl, .slice a4 code.length k4] 60)).alloc (.cells #[.string nm, .string fn] 54)).alloc (.cells #[.int .i64 0, .bool false] 48) := ⟨_, rfl⟩
              have hb3 := unhide HW3 _ W3 hW3
              obtain ⟨W4, hrun, hT4, hB4, hz4, ho4⟩ := tbl_put ((unhide HT).kept (hb3.block B (unhide HBR))) ⟨⟨nm, fn⟩, M, pub⟩ (unhide HO)
              have HBN := hide ((unhide HB).trans ((hb3.mono (show B ≤ wr.heap.size by have := unhide HBR; omega)).trans (hB4 B (Nat.le_refl _))))
              have HTN := hide hT4
              have hPB2 : P ≠ B := by have := unhide HPB; omega
              have HPN : Hid (W4.cell? ⟨P, 0, none⟩ = some (.string nm)) := hide ((World.cell?_of_block (w := W3) (ho4 P hPB2)).trans ((hb3.cell (p := ⟨P, 0, none⟩) (unhide HPS)).trans hP0))
              have HPZ : Hid (P < W4.heap.size) := hide (by rw [hz4]; exact Nat.lt_of_lt_of_le (unhide HPS) hb3.size)
              rw [hW3] at hrun
              have hrun : (Instr.mapUpdate 51 (.map (some B)) (.agg #[.string nm, .string fn]) (.agg #[.int .i64 (M : Int), .bool pub])).run Try.prog _ = .ok () W4 := hrun
              have HKN : Hid (Knows (T2 ++ [⟨⟨nm, fn⟩, M, pub⟩]) (allN l k ++ Ej false (ents nm (baseL l k) funs) (j + 1))) := hide (by
                rw [(unhide HTK).2, ← List.append_assoc]
                have e : baseL l k + j = M := by rw [← unhide HN]; exact (unhide HM).symm
                rw [e]
                exact (unhide HK2).add _)
              clear hW3 hb3 hT4 hB4 hz4 ho4 hPB2
              go_wp2
              go_roundw
              case rel =>
                refine ⟨_, _, _, _, _, _, ?_, rfl, rfl, rfl, rfl, rfl, rfl⟩
                exact ⟨j + 1, by omega, by go_num, M + 1, by go_num, hMM, HMN, _, HTN, HKN⟩
              case measure => simp [intOf] <;> omega
        · have e : j = funs.length := by omega
          subst e
          have HNN : Hid (M = baseL l (k + 1)) := hide (by rw [unhide HST, unhide HM, ← unhide HN])
          have HKN : Hid (Knows T2 (allN l (k + 1))) := hide (by
            have h1 := unhide HK2
            rw [Ej_all (by rw [ents_len]; exact Nat.le_refl _)] at h1
            rw [unhide HAE, unhide HEP, unhide HA]
            exact h1)
          have hM2 : M ≤ 1048576 := hM1
          go_wp2
          go_roundw
          case rel => exact ⟨k + 1, M, T2, by omega, by go_num, rfl, hM2, HNN, HT, HKN, HB⟩
          case measure => simp [intOf] <;> omega
    · have e : k = l.length := by omega
      subst e
      go_wp2
      go_ret
      exact ⟨B, T, rfl, unhide HT, unhide HK, Nat.le_of_eq (unhide HBE), by rw [unhide HBE]; exact unhide HB⟩
end Go.Proofs.Ytakcpfmpaopfdaa
