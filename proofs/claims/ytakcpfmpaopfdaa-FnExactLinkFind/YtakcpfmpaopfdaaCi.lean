/- Objects in memory: the walks of szCodeObj, eqCodeObj, toCodeObj. No conditions. -/
import Derived.Test.YtakcpfmpaopfdaaCh
namespace Go.Proofs.Ytakcpfmpaopfdaa
open Go.RowKit Go.PlainAid

/-- An object. -/
structure TO where
  refs : List TR
  funs : List TC
def TO.wt (o : TO) : Nat := (o.refs.length + wtCrs o.refs) + (o.funs.length + wtCfs o.funs)
/-- A value that is an object, all of it in the blocks from lo on and below n. -/
def IsObj (w : World) (lo n : Nat) (v : Value) (o : TO) : Prop :=
  ∃ (aa : Option Addr) (ca : Nat) (ba : Option Addr) (cb : Nat), v = .agg #[.slice aa o.refs.length ca, .slice ba o.funs.length cb] ∧ (o.refs.length ≤ maxLen ∧ o.funs.length ≤ maxLen) ∧ IsCrs (IsCr w lo n) w lo n aa o.refs ∧ IsCfs (IsCf w lo n) w lo n ba o.funs
theorem IsObj.same {w w' : World} {lo n lo' n' : Nat} (hs : Same lo n w w') (hl : lo' ≤ lo) (hn : n ≤ n') (v : Value) (o : TO) (h : IsObj w lo n v o) : IsObj w' lo' n' v o := by
  obtain ⟨aa, ca, ba, cb, hv, hz, ha, hb⟩ := h
  exact ⟨aa, ca, ba, cb, hv, hz, ha.mono (fun v e he => IsCr.same hs hl hn v e he) hs hl hn, hb.mono (fun v e he => IsCf.same hs hl hn v e he) hs hl hn⟩
theorem IsObj.kept {w w' : World} {lo n m : Nat} {v : Value} {o : TO} (h : IsObj w lo n v o) (hb : Below n w w') (hnm : n ≤ m) : IsObj w' lo m v o := IsObj.same (Below.same hb) (Nat.le_refl _) hnm v o h

set_option maxHeartbeats 1000000 in
theorem szCodeObj_any (lo : Nat) (v : Value) (o : TO) (w : World) (left : Int) (hO : IsObj w lo w.heap.size v o) (h0 : 0 ≤ left) (h1 : left ≤ 1048576) :
    Calls Try.prog 16 #[v, .int .i64 left] w fun r w' => r = .returned (.int .i64 (leftI left o.wt)) ∧ Below w.heap.size w w' := by
  obtain ⟨refs, funs⟩ := o
  obtain ⟨aa, ca, ba, cb, rfl, ⟨hs1, hs2⟩, ha, hb⟩ := hO
  dsimp only at hs1 hs2 ha hb ⊢
  have HA := hide (fun (w' : World) (hk : Below w.heap.size w w') (l : Int) (k0 : 0 ≤ l) (k1 : l ≤ 1048576) => szTreeCrS_of lo (szCodeRef_any lo) aa ca refs w' l (ha.kept hk hk.size) hs1 k0 k1)
  have HE := hide (fun (w' : World) (hk : Below w.heap.size w w') (l : Int) (k0 : 0 ≤ l) (k1 : l ≤ 1048576) => szTreeCfS_of lo (szCodeFun_any lo) ba cb funs w' l (hb.kept hk hk.size) hs2 k0 k1)
  have HW : TO.wt ⟨refs, funs⟩ = (refs.length + wtCrs refs) + (funs.length + wtCfs funs) := rfl
  rw [HW]
  clear HW
  generalize refs.length + wtCrs refs = A at HA ⊢
  generalize funs.length + wtCfs funs = Bw at HE ⊢
  clear ha hb
  obtain ⟨L, hL⟩ := Int.eq_ofNat_of_zero_le h0
  subst hL
  have hL2 : L ≤ 1048576 := by omega
  go_enter Try.func16, Try.ntmps16
  go_wp2_with fail
  refine (unhide HA _ ((Below.refl _ _).alloc (Nat.le_refl _) _) _ (by omega) (by omega)).mono ?_
  rintro r w2 ⟨rfl, hb2⟩
  have hB2 := ((Below.refl w.heap.size w).alloc (Nat.le_refl _) _).trans (hb2.mono (by simp))
  have p5 : w2.cell? ⟨w.heap.size, 1, none⟩ = some (.slice ba funs.length cb) := (hb2.cell (p := ⟨w.heap.size, 1, none⟩) (by simp)).trans (alloc_cell _ _ _ _)
  have HB2 := hide hB2
  clear hb2 hB2
  by_cases hw : A ≤ L
  · have el : leftI (L : Int) A = ((L - A : Nat) : Int) := by rw [left_yes (by omega)]; omega
    rw [el]
    obtain ⟨M, hM⟩ : ∃ M, L - A = M := ⟨_, rfl⟩
    rw [hM]
    have hM2 : M ≤ 1048576 := by omega
    clear el
    go_wp2_with fail
    refine (unhide HE _ (unhide HB2) _ (by omega) (by omega)).mono ?_
    rintro r w3 ⟨rfl, hb3⟩
    have HB3 := hide ((unhide HB2).trans (hb3.mono (unhide HB2).size))
    clear hb3 HB2
    by_cases hw2 : Bw ≤ M
    · have el : leftI (M : Int) Bw = ((M - Bw : Nat) : Int) := by rw [left_yes (by omega)]; omega
      have HF : Hid (leftI (L : Int) (A + Bw) = ((M - Bw : Nat) : Int)) := hide (by rw [left_yes (by omega)]; omega)
      rw [el]
      obtain ⟨K, hK⟩ : ∃ K, M - Bw = K := ⟨_, rfl⟩
      rw [hK] at HF ⊢
      clear el hw2 hK
      go_wp2
      go_ret
      exact ⟨ret_int (unhide HF).symm, unhide HB3⟩
    · have el : leftI (M : Int) Bw = -1 := left_no (by omega)
      have HF : Hid (leftI (L : Int) (A + Bw) = -1) := hide (left_no (by omega))
      rw [el]
      clear el hw2
      go_wp2
      go_ret
      exact ⟨ret_int (unhide HF).symm, unhide HB3⟩
  · have el : leftI (L : Int) A = -1 := left_no (by omega)
    have HF : Hid (leftI (L : Int) (A + Bw) = -1) := hide (left_no (by omega))
    rw [el]
    clear el hw
    go_wp2
    go_ret
    exact ⟨ret_int (unhide HF).symm, unhide HB2⟩

set_option maxHeartbeats 1000000 in
theorem eqCodeObj_any (lo lo' : Nat) (v v' : Value) (o : TO) (w : World) (hO : IsObj w lo w.heap.size v o) (hO' : IsObj w lo' w.heap.size v' o) :
    Calls Try.prog 19 #[v, v'] w fun r w' => r = .returned (.bool true) ∧ Below w.heap.size w w' := by
  obtain ⟨refs, funs⟩ := o
  obtain ⟨aa, ca, ba, cb, rfl, ⟨hs1, hs2⟩, ha, hb⟩ := hO
  obtain ⟨aa', ca', ba', cb', rfl, _, ha', hb'⟩ := hO'
  dsimp only at hs1 hs2 ha hb ha' hb' ⊢
  have HA := hide (fun (w' : World) (hk : Below w.heap.size w w') => eqTreeCrS_of lo lo' (eqCodeRef_any lo lo') aa aa' ca ca' refs w' hs1 (ha.kept hk hk.size) (ha'.kept hk hk.size))
  have HE := hide (fun (w' : World) (hk : Below w.heap.size w w') => eqTreeCfS_of lo lo' (eqCodeFun_any lo lo') ba ba' cb cb' funs w' hs2 (hb.kept hk hk.size) (hb'.kept hk hk.size))
  clear ha hb ha' hb' hs1 hs2
  go_enter Try.func19, Try.ntmps19
  go_wp2_with fail
  refine (unhide HA _ (((Below.refl _ w).alloc (Nat.le_refl _) _).alloc (by simp) _)).mono ?_
  rintro r w2 ⟨rfl, hb2⟩
  have hB2 := ((((Below.refl w.heap.size w).alloc (Nat.le_refl _) _).alloc (by simp) _).trans (hb2.mono (by simp; omega)))
  have p5 : w2.cell? ⟨w.heap.size, 1, none⟩ = some (.slice ba funs.length cb) := (hb2.cell (p := ⟨w.heap.size, 1, none⟩) (by simp; omega)).trans (((Below.refl _ _).alloc (Nat.le_refl _) _).cell (p := ⟨w.heap.size, 1, none⟩) (by simp) |>.trans (alloc_cell _ _ _ _))
  have r5 : w2.cell? ⟨w.heap.size + 1, 1, none⟩ = some (.slice ba' funs.length cb') := (hb2.cell (p := ⟨w.heap.size + 1, 1, none⟩) (by simp)).trans (by
    have := alloc_cell (w.alloc (.cells #[.slice aa refs.length ca, .slice ba funs.length cb] 42)) #[.slice aa' refs.length ca', .slice ba' funs.length cb'] 42 1
    rw [alloc_size] at this
    exact this)
  have HB2 := hide hB2
  clear hb2 hB2
  go_wp2_with fail
  refine (unhide HE _ (unhide HB2)).mono ?_
  rintro r w3 ⟨rfl, hb3⟩
  have HB3 := hide ((unhide HB2).trans (hb3.mono (unhide HB2).size))
  clear hb3 HB2
  go_wp2
  go_ret
  exact ⟨rfl, unhide HB3⟩

set_option maxHeartbeats 2000000 in
theorem toCodeObj_any (lo : Nat) (v : Value) (o : TO) (w : World) (hO : IsObj w lo w.heap.size v o) (ht : o.wt ≤ 1048576) :
    Calls Try.prog 17 #[v] w fun r w' => ∃ v' : Value, r = .returned v' ∧ IsObj w' w.heap.size w'.heap.size v' o ∧ Below w.heap.size w w' := by
  obtain ⟨refs, funs⟩ := o
  obtain ⟨aa, ca, ba, cb, rfl, hz, ha, hb⟩ := hO
  dsimp only at hz ha hb ⊢
  have ht' : (refs.length + wtCrs refs) + (funs.length + wtCfs funs) ≤ 1048576 := ht
  have HA := hide (fun (w' : World) (hk : Below w.heap.size w w') => toTreeCrS_of lo (toCodeRef_any lo) aa ca refs w' (ha.kept hk hk.size) (by omega))
  have HE := hide (fun (w' : World) (hk : Below w.heap.size w w') => toTreeCfS_of lo (toCodeFun_any lo) ba cb funs w' (hb.kept hk hk.size) (by omega))
  have HZ := hide hz
  clear ha hb ht ht' hz
  go_enter Try.func17, Try.ntmps17
  go_wp2_with fail
  refine (unhide HA _ ((((Below.refl _ w).alloc (Nat.le_refl _) _).alloc (by simp) _).alloc (by simp; omega) _)).mono ?_
  rintro r w2 ⟨a', cap', rfl, hk2, hb2⟩
  have hB2 : Below w.heap.size w w2 := (((((Below.refl _ w).alloc (Nat.le_refl _) _).alloc (by simp) _).alloc (by simp; omega) _)).trans (hb2.mono (by simp; omega))
  rw [alloc_size, alloc_size, alloc_size] at hk2
  have n1 : Blk w2 w.heap.size [Value.slice aa refs.length ca, Value.slice ba funs.length cb] := (((Blk.new w [Value.slice aa refs.length ca, Value.slice ba funs.length cb] 34).old _ (by simp only [alloc_size]; omega)).old _ (by simp only [alloc_size]; omega)).below hb2 (by simp only [alloc_size]; omega)
  have n2 : Blk w2 (w.heap.size + 1) [Value.slice none 0 0, Value.slice none 0 0] := by
    have := ((Blk.new (w.alloc (.cells #[Value.slice aa refs.length ca, Value.slice ba funs.length cb] 34)) [Value.slice none 0 0, Value.slice none 0 0] 42).old (.cells #[Value.slice none 0 0, Value.slice none 0 0] 42) (by simp only [alloc_size]; omega)).below hb2 (by simp only [alloc_size]; omega)
    rw [alloc_size] at this
    exact this
  have n3 : Blk w2 (w.heap.size + 1 + 1) [Value.slice none 0 0, Value.slice none 0 0] := by
    have := (Blk.new ((w.alloc (.cells #[Value.slice aa refs.length ca, Value.slice ba funs.length cb] 34)).alloc (.cells #[Value.slice none 0 0, Value.slice none 0 0] 42)) [Value.slice none 0 0, Value.slice none 0 0] 42).below hb2 (by simp only [alloc_size]; omega)
    rw [alloc_size, alloc_size] at this
    exact this
  have hS2 : w.heap.size + 3 ≤ w2.heap.size := by have := hb2.size; rw [alloc_size, alloc_size, alloc_size] at this; omega
  have p1 : w2.cell? ⟨w.heap.size, 1, none⟩ = some (Value.slice ba funs.length cb) := n1.1 1
  have o0 : w2.cell? ⟨w.heap.size + 1 + 1, 0, none⟩ = some (Value.slice none 0 0) := n3.1 0
  have o1 : w2.cell? ⟨w.heap.size + 1 + 1, 1, none⟩ = some (Value.slice none 0 0) := n3.1 1
  have g0 : w2.frozen? ⟨w.heap.size + 1 + 1, 0, none⟩ = false := n3.2 0
  have N2 := hide n2
  have N3 := hide n3
  have HB2 := hide hB2
  have HK2 := hide hk2
  have HS2 := hide hS2
  clear n1 n2 n3 hb2 hB2 hk2 hS2
  go_wp2_with fail
  have hW : Below w.heap.size w (w2.setCell ⟨w.heap.size + 1 + 1, 0, none⟩ (.slice a' refs.length cap')) := (unhide HB2).setCell (p := ⟨w.heap.size + 1 + 1, 0, none⟩) (by simp; omega) _
  have hW3 := (unhide N3).set 0 (.slice a' refs.length cap') (by simp)
  have hW2 := (unhide N2).other (w.heap.size + 1 + 1) 0 (.slice a' refs.length cap') (by omega)
  have hWs : (w2.setCell ⟨w.heap.size + 1 + 1, 0, none⟩ (.slice a' refs.length cap')).heap.size = w2.heap.size := by simp [World.setCell]
  have hWo : Same (w.heap.size + 3) w2.heap.size w2 (w2.setCell ⟨w.heap.size + 1 + 1, 0, none⟩ (.slice a' refs.length cap')) := fun b h1 h2 => Below.heap_setCell _ _ _ _ (by simp; omega)
  generalize (w2.setCell ⟨w.heap.size + 1 + 1, 0, none⟩ (.slice a' refs.length cap')) = W' at hW hW3 hW2 hWs hWo ⊢
  refine (unhide HE W' hW).mono ?_
  rintro r w4 ⟨b', bcap', rfl, hE4, hb4⟩
  have hs3 := unhide HS2
  have m3 : Blk w4 (w.heap.size + 1 + 1) [.slice a' refs.length cap', Value.slice none 0 0] := Blk.below hW3 hb4 (by omega)
  have m2 : Blk w4 (w.heap.size + 1) [Value.slice none 0 0, Value.slice none 0 0] := Blk.below hW2 hb4 (by omega)
  clear p1 o0 o1 g0 N2 N3 hW3 hW2
  have o0 : w4.cell? ⟨w.heap.size + 1 + 1, 0, none⟩ = some (.slice a' refs.length cap') := m3.1 0
  have o1 : w4.cell? ⟨w.heap.size + 1 + 1, 1, none⟩ = some (Value.slice none 0 0) := m3.1 1
  have g1 : w4.frozen? ⟨w.heap.size + 1 + 1, 1, none⟩ = false := m3.2 1
  have q0 : w4.cell? ⟨w.heap.size + 1, 0, none⟩ = some (Value.slice none 0 0) := m2.1 0
  have q1 : w4.cell? ⟨w.heap.size + 1, 1, none⟩ = some (Value.slice none 0 0) := m2.1 1
  have f0 : w4.frozen? ⟨w.heap.size + 1, 0, none⟩ = false := m2.2 0
  have f1 : w4.frozen? ⟨w.heap.size + 1, 1, none⟩ = false := m2.2 1
  have hn := ((m2.other (w.heap.size + 1 + 1) 1 (.slice b' funs.length bcap') (by omega)).set 0 (.slice a' refs.length cap') (by simp)).set 1 (.slice b' funs.length bcap') (by simp)
  have hFB := ((((Below.refl w.heap.size w4).setCell (p := ⟨w.heap.size + 1 + 1, 1, none⟩) (by simp; omega) (.slice b' funs.length bcap')).setCell (p := ⟨w.heap.size + 1, 0, none⟩) (by simp) (.slice a' refs.length cap')).setCell (p := ⟨w.heap.size + 1, 1, none⟩) (by simp) (.slice b' funs.length bcap'))
  have HB4 := hide (hW.trans (hb4.mono (by omega)))
  have HE4 := hide hE4
  have HBB := hide hb4
  have HWO := hide hWo
  have HWS := hide hWs
  have HN := hide hn
  have HFB := hide hFB
  clear m2 m3 hE4 hb4 hW hWo hWs hs3 hn hFB
  go_wp2
  obtain ⟨F, hF⟩ : ∃ F, F = (((w4.setCell ⟨w.heap.size + 1 + 1, 1, none⟩ (.slice b' funs.length bcap')).setCell ⟨w.heap.size + 1, 0, none⟩ (.slice a' refs.length cap')).setCell ⟨w.heap.size + 1, 1, none⟩ (.slice b' funs.length bcap')) := ⟨_, rfl⟩
  have hFO : Same (w.heap.size + 3) w4.heap.size w4 F := fun b h1 h2 => by rw [hF, Below.heap_setCell _ _ _ _ (by simp; omega), Below.heap_setCell _ _ _ _ (by simp; omega), Below.heap_setCell _ _ _ _ (by simp; omega)]
  have hFS : F.heap.size = w4.heap.size := by rw [hF]; simp [World.setCell]
  rw [← hF] at HN HFB ⊢
  have e := (unhide HN).1
  have e0 : F.cell? ⟨w.heap.size + 1, 0, none⟩ = some (.slice a' refs.length cap') := e 0
  have e1 : F.cell? ⟨w.heap.size + 1, 1, none⟩ = some (.slice b' funs.length bcap') := e 1
  refine bodyPost_ret (v := .agg #[.slice a' refs.length cap', .slice b' funs.length bcap']) (by simp [results, Try.results17, go_sem, e0, e1]) rfl ?_
  have hsz := unhide HS2
  have hbb := (unhide HBB).size
  have hws := unhide HWS
  refine ⟨_, rfl, ⟨a', cap', b', bcap', rfl, unhide HZ, ?_, ?_⟩, (unhide HB4).trans (unhide HFB)⟩
  · refine (unhide HK2).mono (fun v e he => he) (fun b h1 h2 => ?_) (by omega) (by omega)
    exact (hFO b (by omega) (by omega)).trans (((unhide HBB).block b (by omega)).trans (unhide HWO b (by omega) h2))
  · have hS : Same W'.heap.size w4.heap.size w4 F := fun b h1 h2 => hFO b (by omega) h2
    exact (unhide HE4).mono (fun v e he => IsCf.same hS (by omega) (by omega) v e he) hS (by omega) (by omega)
end Go.Proofs.Ytakcpfmpaopfdaa
