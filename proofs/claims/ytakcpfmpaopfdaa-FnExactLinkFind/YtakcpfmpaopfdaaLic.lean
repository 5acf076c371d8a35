/- The walks of szLinkPart, eqLinkPart, toLinkPart. No conditions. -/
import Derived.Test.YtakcpfmpaopfdaaLib
namespace Go.Proofs.Ytakcpfmpaopfdaa
open Go.RowKit Go.PlainAid

set_option maxHeartbeats 1000000 in
theorem szLinkPart_any (lo : Nat) : SzPa lo := by
  intro v f w left hF h0 h1
  obtain ⟨nm, obj⟩ := f
  obtain ⟨aa, ca, ba, cb, rfl, hs1, ho⟩ := hF
  dsimp only at hs1 ho ⊢
  have HE := hide (fun (w' : World) (hk : Below w.heap.size w w') (l : Int) (k0 : 0 ≤ l) (k1 : l ≤ 1048576) => szCodeObj_any lo _ obj w' l (ho.kept hk hk.size) k0 k1)
  unfold maxLen at hs1
  show Calls Try.prog 9 #[.agg #[Value.string nm, .slice aa obj.refs.length ca, .slice ba obj.funs.length cb], .int .i64 left] w fun r w' => r = .returned (.int .i64 (leftI left (nm.size + obj.wt))) ∧ Below w.heap.size w w'
  obtain ⟨A, hA⟩ : ∃ A, obj.wt = A := ⟨_, rfl⟩
  rw [hA] at HE ⊢
  clear ho hA
  by_cases g1 : left < (nm.size : Int)
  · have HF := hide (left_no (left := left) (n := nm.size + A) (by omega))
    go_enter Try.func9, Try.ntmps9
    go_wp2
    go_ret
    exact ⟨ret_int (unhide HF).symm, (Below.refl _ _).alloc (Nat.le_refl _) _⟩
  obtain ⟨L, hL⟩ := Int.eq_ofNat_of_zero_le (show 0 ≤ left - nm.size by omega)
  have hL2 : L ≤ 1048576 := by omega
  go_enter Try.func9, Try.ntmps9
  go_wp2_with fail
  refine (unhide HE _ ((Below.refl _ _).alloc (Nat.le_refl _) _) _ (by omega) (by omega)).mono ?_
  rintro r w2 ⟨rfl, hb2⟩
  have HB2 := hide (((Below.refl w.heap.size w).alloc (Nat.le_refl _) _).trans (hb2.mono (by simp)))
  clear hb2
  by_cases hw : A ≤ L
  · have el : leftI (L : Int) A = ((L - A : Nat) : Int) := by rw [left_yes (by omega)]; omega
    have HF : Hid (leftI left (nm.size + A) = ((L - A : Nat) : Int)) := hide (by rw [left_yes (by omega)]; omega)
    rw [el]
    obtain ⟨K, hK⟩ : ∃ K, L - A = K := ⟨_, rfl⟩
    rw [hK] at HF ⊢
    clear el hw hK
    go_wp2
    go_ret
    exact ⟨ret_int (unhide HF).symm, unhide HB2⟩
  · have el : leftI (L : Int) A = -1 := left_no (by omega)
    have HF : Hid (leftI left (nm.size + A) = -1) := hide (left_no (by omega))
    rw [el]
    clear el hw
    go_wp2
    go_ret
    exact ⟨ret_int (unhide HF).symm, unhide HB2⟩

set_option maxHeartbeats 1000000 in
theorem eqLinkPart_any (lo lo' : Nat) : EqPa lo lo' := by
  intro v v' f w hF hF'
  obtain ⟨nm, obj⟩ := f
  obtain ⟨aa, ca, ba, cb, rfl, hs1, ho⟩ := hF
  obtain ⟨aa', ca', ba', cb', rfl, _, ho'⟩ := hF'
  dsimp only at hs1 ho ho' ⊢
  have HA := hide (fun (w' : World) (hk : Below w.heap.size w w') => eqCodeObj_any lo lo' _ _ obj w' (ho.kept hk hk.size) (ho'.kept hk hk.size))
  have q1 : (nm.toList != nm.toList) = false := by simp
  clear ho ho' hs1
  go_enter Try.func15, Try.ntmps15
  go_wp2_with fail
  refine (unhide HA _ (((Below.refl _ w).alloc (Nat.le_refl _) _).alloc (by simp) _)).mono ?_
  rintro r w2 ⟨rfl, hb2⟩
  have HB2 := hide ((((Below.refl w.heap.size w).alloc (Nat.le_refl _) _).alloc (by simp) _).trans (hb2.mono (by simp; omega)))
  clear hb2
  go_wp2
  go_ret
  exact ⟨rfl, unhide HB2⟩

set_option maxHeartbeats 2000000 in
theorem toLinkPart_any (lo : Nat) : ToPa lo := by
  intro v f w hF ht
  obtain ⟨nm, obj⟩ := f
  obtain ⟨aa, ca, ba, cb, rfl, hz, ho⟩ := hF
  dsimp only at hz ho ⊢
  have ht' : nm.size + obj.wt ≤ 1048576 := ht
  have HA := hide (fun (w' : World) (hk : Below w.heap.size w w') => toCodeObj_any lo _ obj w' (ho.kept hk hk.size) (by omega))
  have HZ := hide hz
  clear ho ht ht' hz
  go_enter Try.func13, Try.ntmps13
  go_wp2_with fail
  refine (unhide HA _ ((((Below.refl _ w).alloc (Nat.le_refl _) _).alloc (by simp) _).alloc (by simp; omega) _)).mono ?_
  rintro r w2 ⟨v2, rfl, hk2, hb2⟩
  have hB2 : Below w.heap.size w w2 := (((((Below.refl _ w).alloc (Nat.le_refl _) _).alloc (by simp) _).alloc (by simp; omega) _)).trans (hb2.mono (by simp; omega))
  rw [alloc_size, alloc_size, alloc_size] at hk2
  obtain ⟨pa, pc, qa, qc, rfl⟩ := hk2.two
  have HP := hide hk2
  have n2 : Blk w2 (w.heap.size + 1) [Value.string ⟨#[]⟩, Value.slice none 0 0, Value.slice none 0 0] := by
    have := ((Blk.new (w.alloc (.cells #[Value.string nm, Value.slice aa obj.refs.length ca, Value.slice ba obj.funs.length cb] 36)) [Value.string ⟨#[]⟩, Value.slice none 0 0, Value.slice none 0 0] 44).old (.cells #[Value.string nm, Value.slice none 0 0, Value.slice none 0 0] 44) (by simp only [alloc_size]; omega)).below hb2 (by simp only [alloc_size]; omega)
    rw [alloc_size] at this
    exact this
  have n3 : Blk w2 (w.heap.size + 1 + 1) [Value.string nm, Value.slice none 0 0, Value.slice none 0 0] := by
    have := (Blk.new ((w.alloc (.cells #[Value.string nm, Value.slice aa obj.refs.length ca, Value.slice ba obj.funs.length cb] 36)).alloc (.cells #[Value.string ⟨#[]⟩, Value.slice none 0 0, Value.slice none 0 0] 44)) [Value.string nm, Value.slice none 0 0, Value.slice none 0 0] 44).below hb2 (by simp only [alloc_size]; omega)
    rw [alloc_size, alloc_size] at this
    exact this
  have hS2 : w.heap.size + 3 ≤ w2.heap.size := by have := hb2.size; rw [alloc_size, alloc_size, alloc_size] at this; omega
  have o0 : w2.cell? ⟨w.heap.size + 1 + 1, 0, none⟩ = some (Value.string nm) := n3.1 0
  have o1 : w2.cell? ⟨w.heap.size + 1 + 1, 1, none⟩ = some (Value.slice none 0 0) := n3.1 1
  have o2 : w2.cell? ⟨w.heap.size + 1 + 1, 2, none⟩ = some (Value.slice none 0 0) := n3.1 2
  have g1 : w2.frozen? ⟨w.heap.size + 1 + 1, 1, none⟩ = false := n3.2 1
  have g2 : w2.frozen? ⟨w.heap.size + 1 + 1, 2, none⟩ = false := n3.2 2
  have q0 : w2.cell? ⟨w.heap.size + 1, 0, none⟩ = some (Value.string ⟨#[]⟩) := n2.1 0
  have q1 : w2.cell? ⟨w.heap.size + 1, 1, none⟩ = some (Value.slice none 0 0) := n2.1 1
  have q2 : w2.cell? ⟨w.heap.size + 1, 2, none⟩ = some (Value.slice none 0 0) := n2.1 2
  have f0 : w2.frozen? ⟨w.heap.size + 1, 0, none⟩ = false := n2.2 0
  have f1 : w2.frozen? ⟨w.heap.size + 1, 1, none⟩ = false := n2.2 1
  have f2 : w2.frozen? ⟨w.heap.size + 1, 2, none⟩ = false := n2.2 2
  have hn := ((((n2.other (w.heap.size + 1 + 1) 1 (.slice pa obj.refs.length pc) (by omega)).other (w.heap.size + 1 + 1) 2 (.slice qa obj.funs.length qc) (by omega)).set 0 (.string nm) (by simp)).set 1 (.slice pa obj.refs.length pc) (by simp)).set 2 (.slice qa obj.funs.length qc) (by simp)
  have hFB := (((((Below.refl w.heap.size w2).setCell (p := ⟨w.heap.size + 1 + 1, 1, none⟩) (by simp <;> omega) (.slice pa obj.refs.length pc)).setCell (p := ⟨w.heap.size + 1 + 1, 2, none⟩) (by simp <;> omega) (.slice qa obj.funs.length qc)).setCell (p := ⟨w.heap.size + 1, 0, none⟩) (by simp) (.string nm)).setCell (p := ⟨w.heap.size + 1, 1, none⟩) (by simp) (.slice pa obj.refs.length pc)).setCell (p := ⟨w.heap.size + 1, 2, none⟩) (by simp) (.slice qa obj.funs.length qc)
  have HB2 := hide hB2
  have HK2 := hide hk2
  have HS2 := hide hS2
  have HN := hide hn
  have HFB := hide hFB
  clear n2 n3 hb2 hB2 hk2 hS2 hn hFB
  go_wp2
  obtain ⟨F, hF⟩ : ∃ F, F = ((((w2.setCell ⟨w.heap.size + 1 + 1, 1, none⟩ (.slice pa obj.refs.length pc)).setCell ⟨w.heap.size + 1 + 1, 2, none⟩ (.slice qa obj.funs.length qc)).setCell ⟨w.heap.size + 1, 0, none⟩ (.string nm)).setCell ⟨w.heap.size + 1, 1, none⟩ (.slice pa obj.refs.length pc)).setCell ⟨w.heap.size + 1, 2, none⟩ (.slice qa obj.funs.length qc) := ⟨_, rfl⟩
  have hFO : Same (w.heap.size + 3) w2.heap.size w2 F := fun b h1 h2 => by rw [hF, Below.heap_setCell _ _ _ _ (by simp; omega), Below.heap_setCell _ _ _ _ (by simp; omega), Below.heap_setCell _ _ _ _ (by simp; omega), Below.heap_setCell _ _ _ _ (by simp; omega), Below.heap_setCell _ _ _ _ (by simp; omega)]
  have hFS : F.heap.size = w2.heap.size := by rw [hF]; simp [World.setCell]
  rw [← hF] at HN HFB ⊢
  have e := (unhide HN).1
  have e0 : F.cell? ⟨w.heap.size + 1, 0, none⟩ = some (.string nm) := e 0
  have e1 : F.cell? ⟨w.heap.size + 1, 1, none⟩ = some (.slice pa obj.refs.length pc) := e 1
  have e2 : F.cell? ⟨w.heap.size + 1, 2, none⟩ = some (.slice qa obj.funs.length qc) := e 2
  refine bodyPost_ret (v := .agg #[.string nm, .slice pa obj.refs.length pc, .slice qa obj.funs.length qc]) (by simp [results, Try.results13, go_sem, e0, e1, e2]) rfl ?_
  have hsz := unhide HS2
  refine ⟨_, _, _, rfl, ⟨pa, pc, qa, qc, rfl, unhide HZ, ?_⟩, (unhide HB2).trans (unhide HFB)⟩
  exact IsObj.same (fun b h1 h2 => hFO b (by omega) h2) (by omega) (by omega) _ _ (unhide HK2)
end Go.Proofs.Ytakcpfmpaopfdaa
