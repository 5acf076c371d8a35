/- The walk of spec.l2Size. Conditions: the module can be read, and weighs at most 2^20. -/
import Derived.Test.YtgmohnbjfemebaaGreatDoorUg
import Derived.Handy
namespace Go.Proofs.YtgmohnbjfemebaaGreatDoor
open Go.RowKit Go.PlainAid

theorem wtFuns_mem {l : List TF} {f : TF} (h : f ∈ l) : f.wt ≤ wtFuns l := by
  induction l with
  | nil => simp at h
  | cons a t ih =>
    have e : wtFuns (a :: t) = a.wt + wtFuns t := by unfold wtFuns; simp
    rcases List.mem_cons.1 h with rfl | h
    · omega
    · have := ih h; omega
theorem wtL_mem : ∀ {l : List TE} {e : TE}, e ∈ l → e.wt ≤ wtL l
  | a :: t, e, h => by
    rw [wtL]
    rcases List.mem_cons.1 h with rfl | h
    · omega
    · have := wtL_mem h; omega
theorem bodies_len (m : TM) : m.bodies.length = m.funs.length + m.main.length := by unfold TM.bodies; simp
theorem bodies_fun (m : TM) (k : Nat) (h : k < m.funs.length) (h' : k < m.bodies.length) : m.bodies[k] = m.funs[k].body := by
  rw [List.getElem_of_eq (show m.bodies = m.funs.map TF.body ++ m.main from rfl) h', List.getElem_append_left (by simpa using h)]; simp
theorem bodies_main (m : TM) (k : Nat) (h : k < m.main.length) (h' : m.funs.length + k < m.bodies.length) : m.bodies[m.funs.length + k] = m.main[k] := by
  rw [List.getElem_of_eq (show m.bodies = m.funs.map TF.body ++ m.main from rfl) h', List.getElem_append_right (by simp)]; simp
theorem bodies_nodes (m : TM) (ht : m.wt ≤ 1048576) (k : Nat) (h : k < m.bodies.length) : m.bodies[k].nodes ≤ 1048577 := by
  have h1 := nodes_wt m.bodies[k]
  have h2 : m.bodies[k].wt ≤ 1048576 := by
    unfold TM.wt at ht
    by_cases hk : k < m.funs.length
    · rw [bodies_fun m k hk]
      have := wtFuns_mem (List.getElem_mem hk)
      unfold TF.wt at this
      omega
    · obtain ⟨j, rfl⟩ : ∃ j, k = m.funs.length + j := ⟨k - m.funs.length, by omega⟩
      rw [bodies_len] at h
      rw [bodies_main m j (by omega)]
      have := wtL_mem (List.getElem_mem (show j < m.main.length by omega))
      omega
  omega

set_option maxHeartbeats 2000000 in
theorem l2Size_any (lo h : Nat) (v : Value) (m : TM) (w : World) (hM : IsMod w lo w.heap.size h v m) (ht : m.wt ≤ 1048576) :
    Calls Tryz.prog 80 #[v] w fun r w' => r = .returned (.bool (sizeFrom 0 m.bodies)) ∧ Below w.heap.size w w' := by
  have hBL := bodies_len m
  have HBF := hide (bodies_fun m)
  have HBM := hide (bodies_main m)
  have HBN := hide (bodies_nodes m ht)
  have hlf : m.funs.length ≤ 1048576 := by unfold TM.wt at ht; omega
  have hlm : m.main.length ≤ 1048576 := by unfold TM.wt at ht; omega
  obtain ⟨us, fs, mn⟩ := m
  obtain ⟨a1, a2, a3, k1, k2, k3, rfl, _, _, q2, q3⟩ := hM
  dsimp only at q2 q3 hlf hlm HBF HBM hBL ⊢
  generalize TM.bodies _ = BD at hBL HBF HBM HBN ⊢
  have HQ2 := hide q2
  have HQ3 := hide q3
  have HBL := hide hBL
  clear q2 q3 ht hBL
  go_enter Tryz.func80, Tryz.ntmps80
  go_wp2
  go_loopw [3, 4] (fun nn i wr => ∃ k N : Nat, k ≤ fs.length + mn.length ∧ i = .int .i64 k ∧ nn = .int .i64 N ∧ N ≤ 150 ∧ Hid (nodesL (BD.take k) = N) ∧ Hid (sizeFrom 0 BD = sizeFrom N (BD.drop k)) ∧ wr.cell? ⟨w.heap.size, 1, none⟩ = some (.slice a2 fs.length k2) ∧ wr.cell? ⟨w.heap.size, 2, none⟩ = some (.slice a3 mn.length k3) ∧ Hid (w.heap.size < wr.heap.size) ∧ Hid (Below w.heap.size w wr)) (fun _ i _ => fs.length + mn.length - (intOf i).toNat)
  case atStart => exact ⟨0, 0, Nat.zero_le _, rfl, rfl, by omega, hide rfl, hide rfl, by simp, by simp, hide (by simp), hide ((Below.refl _ _).alloc (Nat.le_refl _) _)⟩
  case round =>
    obtain ⟨k, N, hk, rfl, rfl, hN, HNN, HS, hc1, hc2, HZ, HB⟩ := hrel
    by_cases hp : k < fs.length + mn.length
    · have hpb : k < BD.length := by have := unhide HBL; omega
      have hat := size_at BD k hpb
      rw [unhide HNN] at hat
      have hnd := nodes_step BD k hpb
      rw [unhide HNN] at hnd
      have hbn := unhide HBN k hpb
      obtain ⟨e, he⟩ : ∃ e, BD[k]'hpb = e := ⟨_, rfl⟩
      rw [he] at hat hnd hbn
      have HAT := hide hat
      have HND := hide hnd
      have hdn := deep_le e
      clear hat hnd
      have HE : Hid (∃ c0 c1 c2 c3 c4 : Value, ∃ b o : Nat, IsE wr lo wr.heap.size h (.agg #[c0, c1, c2, c3, c4]) e ∧ wr.cell? ⟨b, o, none⟩ = some c0 ∧ wr.cell? ⟨b, o + 1, none⟩ = some c1 ∧ wr.cell? ⟨b, o + 2, none⟩ = some c2 ∧ wr.cell? ⟨b, o + 3, none⟩ = some c3 ∧ wr.cell? ⟨b, o + 4, none⟩ = some c4 ∧ ((k < fs.length ∧ ∃ off, a2 = some ⟨b, off, none⟩ ∧ o = off + k * 9 + 4) ∨ (¬ k < fs.length ∧ ∃ off, a3 = some ⟨b, off, none⟩ ∧ o = off + (k - fs.length) * 5))) := hide (by
        by_cases hkf : k < fs.length
        · rcases (unhide HQ2).kept (unhide HB) (unhide HB).size with hq | ⟨b, off, rfl, hbl, hbn, hcs⟩
          · rw [hq] at hkf; simp at hkf
          obtain ⟨c0, c1, c2, c3, c4, c5, c6, c7, c8, d0, d1, d2, d3, d4, d5, d6, d7, d8, hr⟩ := hcs k hkf
          obtain ⟨aa, ca, b0, b1, b2, b3, b4, hv, _, _, hE⟩ := hr
          simp only [Value.agg.injEq, Array.mk.injEq, List.cons.injEq, and_true] at hv
          obtain ⟨-, -, -, -, rfl, rfl, rfl, rfl, rfl⟩ := hv
          rw [← unhide HBF k hkf hpb, he] at hE
          exact ⟨c4, c5, c6, c7, c8, b, off + k * 9 + 4, hE, d4, d5, d6, d7, d8, .inl ⟨hkf, off, rfl, rfl⟩⟩
        · rcases (unhide HQ3).kept (unhide HB) (unhide HB).size with hq | ⟨b, off, rfl, hbl, hbn, hcs⟩
          · rw [hq] at hp; simp at hp; omega
          have hkm : k - fs.length < mn.length := by omega
          obtain ⟨c0, c1, c2, c3, c4, d0, d1, d2, d3, d4, hr⟩ := hcs (k - fs.length) hkm
          have hkk : fs.length + (k - fs.length) = k := by omega
          have := unhide HBM (k - fs.length) hkm (by omega)
          simp only [hkk] at this
          rw [← this, he] at hr
          exact ⟨c0, c1, c2, c3, c4, b, _, hr, d0, d1, d2, d3, d4, .inr ⟨hkf, off, rfl, rfl⟩⟩)
      clear he
      obtain ⟨c0, c1, c2, c3, c4, b, o, hE, d0, d1, d2, d3, d4, hw⟩ := unhide HE
      have hbz : b < wr.heap.size := block_lt_of_cell d0
      have hzz := unhide HZ
      obtain ⟨xk, xm, xn, xd, xa, xl, xc, rfl, rfl, rfl, rfl, rfl⟩ := hE.form5
      clear HE
      have HEE := hide hE
      clear hE
      have HNX : Hid (∀ W : World, Below wr.heap.size wr W → Calls Tryz.prog 83 #[.agg #[.int .i64 xk, .int .i64 xm, .string xn, .string xd, .slice xa xl xc]] W fun r w' => r = .returned (.tuple #[.int .i64 e.nodes, .int .i64 e.deep]) ∧ Below W.heap.size W w') := hide (fun W hb => TreeNodesS_any lo h _ e W (IsE.kept hb hb.size h _ _ (unhide HEE)) hbn)
      clear HEE
      obtain ⟨E, hE⟩ : ∃ E, e.nodes = E := ⟨_, rfl⟩
      obtain ⟨F, hF⟩ : ∃ F, e.deep = F := ⟨_, rfl⟩
      rw [hE, hF] at HAT hdn
      rw [hE] at HND hbn
      simp only [hE, hF] at HNX
      have HFIN : Hid (¬ (150 < N + E) → ¬ (16 < F) → nodesL (BD.take (k + 1)) = N + E ∧ sizeFrom 0 BD = sizeFrom (N + E) (BD.drop (k + 1))) := hide (fun g1 g2 => by
        refine ⟨unhide HND, ?_⟩
        rw [unhide HS, unhide HAT, unhide HND, decide_eq_true (by omega), decide_eq_true (by omega)]; rfl)
      have HBAD : Hid ((150 < N + E) ∨ (16 < F) → sizeFrom 0 BD = false) := hide (fun g => by
        rw [unhide HS, unhide HAT]
        rcases g with g | g
        · rw [decide_eq_false (by omega)]; rfl
        · rw [decide_eq_false (p := F ≤ 16) (by omega)]; simp)
      clear HAT HND HS HNN hE hF
      rcases hw with ⟨hkf, off, rfl, rfl⟩ | ⟨hkf, off, rfl, rfl⟩
      all_goals
        go_wp2_with fail
        refine (unhide HNX _ ?hb).mono ?_
        case hb => go_grown
        rintro r w2 ⟨rfl, hb2⟩
        have hB2 : Below wr.heap.size wr w2 := Below.trans (by go_grown) (hb2.mono (by simp))
        have HB2 := hide ((unhide HB).trans (hB2.mono (unhide HB).size))
        have hc1' := (hB2.cell (p := ⟨w.heap.size, 1, none⟩) (unhide HZ)).trans hc1
        have hc2' := (hB2.cell (p := ⟨w.heap.size, 2, none⟩) (unhide HZ)).trans hc2
        have HZ2 : Hid (w.heap.size < w2.heap.size) := hide (by have := unhide HZ; have := hB2.size; omega)
        clear hb2 hB2 hc1 hc2 HB HZ d0 d1 d2 d3 d4 hzz hbz
        by_cases g1 : 150 < N + E
        · have HR := hide (unhide HBAD (.inl g1))
          go_wp2
          go_ret
          exact ⟨ret_bool (unhide HR).symm, unhide HB2⟩
        by_cases g2 : 16 < F
        · have HR := hide (unhide HBAD (.inr g2))
          go_wp2
          go_ret
          exact ⟨ret_bool (unhide HR).symm, unhide HB2⟩
        have HG := hide (unhide HFIN g1 g2)
        go_wp2
        go_roundw
        case rel => exact ⟨k + 1, N + E, by omega, by go_num, by go_num, by omega, hide (unhide HG).1, hide (unhide HG).2, hc1', hc2', HZ2, HB2⟩
        case measure => simp [intOf]; omega
    · have HF : Hid (sizeFrom 0 BD = true) := hide (by rw [unhide HS, List.drop_of_length_le (by have := unhide HBL; omega)]; rfl)
      go_wp2
      go_ret
      exact ⟨ret_bool (unhide HF).symm, unhide HB⟩
end Go.Proofs.YtgmohnbjfemebaaGreatDoor
