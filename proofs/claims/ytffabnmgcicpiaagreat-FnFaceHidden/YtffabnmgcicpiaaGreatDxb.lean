/- The walk of DrawFaceOf: a drawn module. Conditions: the slice that was handed in can be read. -/
import Derived.Test.YtffabnmgcicpiaaGreatDxa
import Derived.OpenShut
namespace Go.Proofs.YtffabnmgcicpiaaGreat
open Go.RowKit Go.PlainAid
/-- What the walk is told of a slice of integers that came in. -/
def IsRow (k : IntKind) (w : World) (a : Option Addr) (len cap : Nat) (zs : List Int) : Prop :=
  (a = none ∧ len = 0 ∧ cap = 0 ∧ zs = []) ∨
  ∃ x, a = some x ∧ len ≤ cap ∧ cap ≤ maxLen ∧ zs.length = cap ∧ (∀ i, i < zs.length → w.cell? (x.add i) = some (.int k (zs.getD i 0))) ∧ ∀ n ∈ zs, (Lit.int k n).wf = true
theorem wf_u8 {n : Int} (h : (Lit.int .u8 n).wf = true) : 0 ≤ n ∧ n ≤ 255 := bounds_u8 h
theorem IsRow.src {w : World} {a : Option Addr} {len cap : Nat} {zs : List Int} (h : IsRow .u8 w a len cap zs) : len ≤ cap ∧ cap ≤ maxLen ∧ Src w w.heap.size a len := by
  rcases h with ⟨rfl, rfl, rfl, rfl⟩ | ⟨x, rfl, h1, h2, h3, h4, h5⟩
  · exact ⟨Nat.le_refl _, Nat.zero_le _, .inl rfl⟩
  · refine ⟨h1, h2, ?_⟩
    by_cases hl : len = 0
    · exact .inl hl
    · right
      obtain ⟨b, off, spot⟩ := x
      have hc := h4 0 (by omega)
      have hspot : spot = none := by simpa [Addr.add] using World.cell?_spot hc
      subst hspot
      refine ⟨b, off, fun j => zs.getD j 0, rfl, ?_, fun j => ?_, fun j hj => ?_⟩
      · have := block_lt_of_cell hc
        simpa [Addr.add] using this
      · by_cases hj : j < zs.length
        · have e : zs.getD j 0 = zs[j] := by simp [List.getD, hj]
          show 0 ≤ zs.getD j 0 ∧ zs.getD j 0 ≤ 255
          rw [e]
          exact wf_u8 (h5 _ (List.getElem_mem hj))
        · have e : zs.getD j 0 = 0 := by simp [List.getD, List.getElem?_eq_none (Nat.le_of_not_lt hj)]
          show 0 ≤ zs.getD j 0 ∧ zs.getD j 0 ≤ 255
          rw [e]
          omega
      · have := h4 j (by omega)
        by_cases e : j = 0
        · subst e; simpa [Addr.add] using this
        · simpa [Addr.add, e] using this

set_option maxRecDepth 100000 in
set_option maxHeartbeats 4000000 in
theorem DrawFaceOf_any (a : Option Addr) (len cap : Nat) (w0 : World) (hl : len ≤ cap) (hm : cap ≤ maxLen) (h : Src w0 w0.heap.size a len) :
    Calls Tryz.prog 4 #[.slice a len cap] w0 fun r w' => ∃ (v : Value) (m : TM), r = .returned v ∧ KpD (fun b => w0.heap.size ≤ b) w' (fun W => IsMod W 0 W.heap.size 9 v m) ∧ m.wt ≤ 90000 ∧ Below w0.heap.size w0 w' := by
  obtain ⟨W1, hW1⟩ : ∃ W1, W1 = w0.alloc (.cells #[.slice none 0 0, .slice none 0 0, .slice none 0 0] 27) := ⟨_, rfl⟩
  have hz1 : W1.heap.size = w0.heap.size + 1 := by rw [hW1]; simp
  have hr1 : Blk W1 w0.heap.size nil3 := by rw [hW1]; exact Blk.new w0 nil3 27
  have hb1 : Below w0.heap.size w0 W1 := by rw [hW1]; exact below_one w0 _
  have HO := hide (l23Open_any a len cap W1 hl hm (h.kept hb1 (by omega)))
  have HR1 := hide hr1
  have HB1 := hide hb1
  have HZ1 := hide hz1
  clear hz1 hr1 hb1 hl hm h
  go_enter Tryz.func4, Tryz.ntmps4
  go_upto_region 1 with fail
  rw [← hW1]
  clear hW1
  go_wp2_with fail
  refine (unhide HO).mono ?_
  rintro r w2 ⟨len', cap', rfl, hrd, hb2, hsz⟩
  have HONE := hide (l22One_any W1.heap.size a len' cap' w2 0 hrd (by omega) (by omega))
  have HB2 := hide hb2
  have HZ2 := hide hsz
  clear hrd hb2 hsz HO
  go_wp2_with fail
  refine (unhide HONE).mono ?_
  rintro r w3 ⟨v, m, fa, fc, ys, q, rfl, hkm, hwm, -, -, -, hd⟩
  obtain ⟨s1, s2, s3, k1, k2, k3, hv, -, -, -, -⟩ := hkm.now
  subst hv
  obtain ⟨l1, hl1⟩ : ∃ l1, m.uses.length = l1 := ⟨_, rfl⟩
  obtain ⟨l2, hl2⟩ : ∃ l2, m.funs.length = l2 := ⟨_, rfl⟩
  obtain ⟨l3, hl3⟩ : ∃ l3, m.main.length = l3 := ⟨_, rfl⟩
  rw [hl1, hl2, hl3] at hkm ⊢
  have hz1 := unhide HZ1
  have hz2 := unhide HZ2
  have hs3 := hd.size
  have hr3 : Blk w3 w0.heap.size nil3 := ((unhide HR1).below (unhide HB2) (by omega)).ofb (hd.mv.2 _ (by omega) (by omega))
  have hb3 : Below w0.heap.size w0 w3 := ((unhide HB1).trans ((unhide HB2).mono (by omega))).trans (hd.mv.1.mono (by omega))
  have r0 := hr3.cellAt (i := 0) rfl
  have r1 := hr3.cellAt (i := 1) rfl
  have r2 := hr3.cellAt (i := 2) rfl
  have f0 := hr3.2 0
  have f1 := hr3.2 1
  have f2 := hr3.2 2
  have hne : w0.heap.size ≠ w3.heap.size := by omega
  have hlt : w0.heap.size < w3.heap.size := by omega
  obtain ⟨X, hX⟩ : ∃ X, X = w3.alloc (.cells #[.slice s1 l1 k1, .slice s2 l2 k2, .slice s3 l3 k3] 27) := ⟨_, rfl⟩
  have HX : Hid (∀ F, F = ((X.setCell ⟨w0.heap.size, 0, none⟩ (.slice s1 l1 k1)).setCell ⟨w0.heap.size, 1, none⟩ (.slice s2 l2 k2)).setCell ⟨w0.heap.size, 2, none⟩ (.slice s3 l3 k3) →
      F.cell? ⟨w0.heap.size, 0, none⟩ = some (.slice s1 l1 k1) ∧ F.cell? ⟨w0.heap.size, 1, none⟩ = some (.slice s2 l2 k2) ∧ F.cell? ⟨w0.heap.size, 2, none⟩ = some (.slice s3 l3 k3) ∧
      KpD (fun b => w0.heap.size ≤ b) F (fun W => IsMod W 0 W.heap.size 9 (.agg #[.slice s1 l1 k1, .slice s2 l2 k2, .slice s3 l3 k3]) m) ∧ Below w0.heap.size w0 F) := hide (fun F hF => by
    have hrX : Blk X w0.heap.size nil3 := by rw [hX]; exact hr3.old _ hlt
    have hn := ((hrX.set 0 (.slice s1 l1 k1) (by simp)).set 1 (.slice s2 l2 k2) (by simp)).set 2 (.slice s3 l3 k3) (by simp)
    have hst : StayD (fun b => w2.heap.size ≤ b) w3 F := by
      rw [hF, hX]
      exact (((StayD.below (below_one w3 _)).set w0.heap.size 0 _ (fun _ h => by omega)).set w0.heap.size 1 _ (fun _ h => by omega)).set w0.heap.size 2 _ (fun _ h => by omega)
    have hbF : Below w0.heap.size w0 F := by
      rw [hF, hX]
      exact (((hb3.trans ((below_one w3 _).mono (by omega))).setCell (p := ⟨w0.heap.size, 0, none⟩) (Nat.le_refl _) _).setCell (p := ⟨w0.heap.size, 1, none⟩) (Nat.le_refl _) _).setCell (p := ⟨w0.heap.size, 2, none⟩) (Nat.le_refl _) _
    rw [← hF] at hn
    exact ⟨hn.cellAt (i := 0) rfl, hn.cellAt (i := 1) rfl, hn.cellAt (i := 2) rfl, (hkm.stay hst).less (fun b _ h => by omega), hbF⟩)
  have hrX : Blk X w0.heap.size nil3 := by rw [hX]; exact hr3.old _ hlt
  have heX : Blk X w3.heap.size [.slice s1 l1 k1, .slice s2 l2 k2, .slice s3 l3 k3] := by rw [hX]; exact Blk.new w3 _ _
  have HWM := hide hwm
  clear hkm hwm hd hz1 hz2 hs3 hr3 hb3 hl1 hl2 hl3 HONE r0 r1 r2 f0 f1 f2
  go_upto_region 2 with fail
  rw [← hX]
  clear hX
  have r0 := hrX.cellAt (i := 0) rfl
  have r1 := hrX.cellAt (i := 1) rfl
  have r2 := hrX.cellAt (i := 2) rfl
  have f0 := hrX.2 0
  have f1 := hrX.2 1
  have f2 := hrX.2 2
  have e0 := heX.cellAt (i := 0) rfl
  have e1 := heX.cellAt (i := 1) rfl
  have e2 := heX.cellAt (i := 2) rfl
  clear hrX heX
  go_wp2
  obtain ⟨F, hF⟩ : ∃ F, F = ((X.setCell ⟨w0.heap.size, 0, none⟩ (.slice s1 l1 k1)).setCell ⟨w0.heap.size, 1, none⟩ (.slice s2 l2 k2)).setCell ⟨w0.heap.size, 2, none⟩ (.slice s3 l3 k3) := ⟨_, rfl⟩
  obtain ⟨g0, g1, g2, hm, hb⟩ := unhide HX F hF
  rw [← hF]
  refine bodyPost_ret (v := .agg #[.slice s1 l1 k1, .slice s2 l2 k2, .slice s3 l3 k3]) (by simp [results, Tryz.results4, go_sem, g0, g1, g2]) rfl ?_
  exact ⟨_, m, rfl, hm, unhide HWM, hb⟩
end Go.Proofs.YtffabnmgcicpiaaGreat
