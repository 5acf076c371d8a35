/- The walk of treeSameFun. Conditions: no two lists of the first function's body lie in one block; it has at most 2^20 expressions; what treeSameExprs does. -/
import Derived.Test.YtambkcchnmbaoaaRj
namespace Go.Proofs.Ytambkcchnmbaoaa
open Go.RowKit Go.PlainAid

/-- What treeSameExprs does. -/
def SameEx : Prop := ∀ (lo hi h lo' h' : Nat) (a a' : Option Addr) (cap cap' : Nat) (ks ks' : List TE) (w : World), IsSW w h lo hi a ks → hi ≤ w.heap.size → IsKids (IsE w lo' w.heap.size h') w lo' w.heap.size a' ks' → ks.length ≤ maxLen → nodesL ks ≤ 1048576 →
    Calls Try.prog 48 #[.slice a ks.length cap, .slice a' ks'.length cap'] w fun r w' => r = .returned (.bool (sameL ks ks')) ∧ Below w.heap.size w w'
/-- A function whose body's lists lie apart. -/
def IsFunS (w : World) (lo n h : Nat) (v : Value) (f : TF) : Prop :=
  ∃ (aa : Option Addr) (ca : Nat) (b0 b1 b2 b3 b4 : Value), v = .agg #[.string f.name, .bool f.pub, .slice aa f.args.length ca, .int .i64 f.type, b0, b1, b2, b3, b4] ∧ (f.name.size ≤ maxLen ∧ f.args.length ≤ maxLen) ∧ IsArgs (IsArg w lo n) w lo n aa f.args ∧ IsS w h lo n (.agg #[b0, b1, b2, b3, b4]) f.body
theorem IsFunS.toF {w : World} {lo n h : Nat} {v : Value} {f : TF} (hF : IsFunS w lo n h v f) : IsFun w lo n h v f := by
  obtain ⟨aa, ca, b0, b1, b2, b3, b4, hv, hz, ha, hE⟩ := hF
  exact ⟨aa, ca, b0, b1, b2, b3, b4, hv, hz, ha, IsS.toE _ _ _ _ _ hE⟩
theorem IsFunS.same {w w' : World} {lo n lo' n' : Nat} (h : Nat) (hs : Same lo n w w') (hl : lo' ≤ lo) (hn : n ≤ n') (v : Value) (f : TF) (hF : IsFunS w lo n h v f) : IsFunS w' lo' n' h v f := by
  obtain ⟨aa, ca, b0, b1, b2, b3, b4, hv, hz, ha, hE⟩ := hF
  exact ⟨aa, ca, b0, b1, b2, b3, b4, hv, hz, ha.mono (fun v e he => IsArg.same hs hl hn v e he) hs hl hn, IsS.same h _ _ _ _ _ _ hs hl hn hE⟩
theorem one_sw {w W : World} {B lo h T : Nat} {b0 b1 b2 b3 b4 : Value} {e : TE} (hE : IsS w h lo w.heap.size (.agg #[b0, b1, b2, b3, b4]) e) (hb : Below w.heap.size w W) (hB : W.heap[B]? = some (.cells #[b0, b1, b2, b3, b4] T (0, 0))) (hlt : w.heap.size ≤ B) (hlo : lo ≤ w.heap.size) : IsSW W h lo (B + 1) (some ⟨B, 0, none⟩) [e] := by
  refine .inr ⟨B, rfl, by omega, by omega, ⟨_, _, hB⟩, fun j => if j = 0 then lo else w.heap.size, by simp, .inr (by simpa using hlt), fun j hj => ?_, by simp; omega, fun j hj => ?_⟩
  · simp at hj; subst hj; simpa using hlo
  · simp at hj; subst hj
    have hc : ∀ o u, (#[b0, b1, b2, b3, b4] : Array Value)[o]? = some u → W.cell? ⟨B, o, none⟩ = some u := fun o u hu => by rw [cell_of_row W B o _ _ _ hB]; exact hu
    refine ⟨b0, b1, b2, b3, b4, hc 0 _ rfl, hc 1 _ rfl, hc 2 _ rfl, hc 3 _ rfl, hc 4 _ rfl, ?_⟩
    exact IsS.same h lo w.heap.size lo w.heap.size _ _ (fun b _ h2 => hb.block b h2) (Nat.le_refl _) (Nat.le_refl _) hE
theorem one_kids {w W : World} {B lo h T : Nat} {b0 b1 b2 b3 b4 : Value} {e : TE} (hE : IsE w lo w.heap.size h (.agg #[b0, b1, b2, b3, b4]) e) (hb : Below w.heap.size w W) (hB : W.heap[B]? = some (.cells #[b0, b1, b2, b3, b4] T (0, 0))) (hlt : w.heap.size ≤ B) (hlo : lo ≤ w.heap.size) : IsKids (IsE W lo W.heap.size h) W lo W.heap.size (some ⟨B, 0, none⟩) [e] := by
  refine .inr ⟨B, 0, rfl, by omega, (Array.getElem?_eq_some_iff.1 hB).1, fun j hj => ?_⟩
  simp at hj; subst hj
  have hc : ∀ o u, (#[b0, b1, b2, b3, b4] : Array Value)[o]? = some u → W.cell? ⟨B, o, none⟩ = some u := fun o u hu => by rw [cell_of_row W B o _ _ _ hB]; exact hu
  exact ⟨b0, b1, b2, b3, b4, hc 0 _ rfl, hc 1 _ rfl, hc 2 _ rfl, hc 3 _ rfl, hc 4 _ rfl, IsE.kept hb hb.size h _ _ hE⟩

set_option maxRecDepth 100000 in
set_option maxHeartbeats 4000000 in
theorem sameFun_any (H : SameEx) (lo lo' h h' : Nat) (v v' : Value) (f g : TF) (w : World) (hF : IsFunS w lo w.heap.size h v f) (hG : IsFun w lo' w.heap.size h' v' g) (hlo : lo ≤ w.heap.size) (hlo' : lo' ≤ w.heap.size) (hN : f.body.nodes ≤ 1048576) :
    Calls Try.prog 47 #[v, v'] w fun r w' => r = .returned (.bool (f.same g)) ∧ Below w.heap.size w w' := by
  have HX : Hid (f.same g = ((f.name.toList == g.name.toList) && ((f.pub == g.pub) && ((f.type == g.type) && (argsB f.args g.args && f.body.same g.body))))) := hide rfl
  obtain ⟨nm, pub, args, ty, body⟩ := f
  obtain ⟨nm', pub', args', ty', body'⟩ := g
  obtain ⟨aa, ca, b0, b1, b2, b3, b4, rfl, ⟨_, hs2⟩, ha, hE⟩ := hF
  obtain ⟨aa', ca', b0', b1', b2', b3', b4', rfl, ⟨_, hs2'⟩, ha', hE'⟩ := hG
  dsimp only at hs2 hs2' ha ha' hE hE' HX hN ⊢
  generalize TF.same _ _ = R at HX ⊢
  obtain ⟨xk, xm, xn, xd, xa, xl, xc, rfl, rfl, rfl, rfl, rfl⟩ := (IsS.toE _ _ _ _ _ hE).form5
  obtain ⟨yk, ym, yn, yd, ya, yl, yc, rfl, rfl, rfl, rfl, rfl⟩ := hE'.form5
  have HA := hide (fun (W : World) (hb : Below w.heap.size w W) => equalArgs_any lo lo' aa aa' ca ca' args args' W (ha.kept hb hb.size) (ha'.kept hb hb.size) hs2 hs2')
  have HE := hide (fun (W : World) (hb : Below w.heap.size w W) => H lo (W.heap.size + 1) h lo' h' (some ⟨W.heap.size, 0, none⟩) (some ⟨W.heap.size + 1, 0, none⟩) 1 1 [body] [body'] _ (one_sw (W := (W.alloc (.cells #[.int .i64 xk, .int .i64 xm, .string xn, .string xd, .slice xa xl xc] 34)).alloc (.cells #[.int .i64 yk, .int .i64 ym, .string yn, .string yd, .slice ya yl yc] 34)) hE ((hb.alloc hb.size _).alloc (by have := hb.size; simp; omega) _) ((Below.heap_alloc _ _ _ (by simp)).trans (heap_alloc_new _ _)) hb.size hlo) (by simp) (one_kids hE' ((hb.alloc hb.size _).alloc (by have := hb.size; simp; omega) _) (by have := heap_alloc_new (W.alloc (.cells #[.int .i64 xk, .int .i64 xm, .string xn, .string xd, .slice xa xl xc] 34)) (.cells #[.int .i64 yk, .int .i64 ym, .string yn, .string yd, .slice ya yl yc] 34); rw [alloc_size] at this; exact this) (by have := hb.size; omega) hlo') (show 1 ≤ maxLen by decide) (by rw [nodesL, nodesL]; exact hN))
  clear ha ha' hE hE'
  cases t1 : (nm.toList == nm'.toList) with
  | false =>
    have HR : Hid (R = false) := hide (by rw [unhide HX, t1]; simp)
    go_enter Try.func47, Try.ntmps47
    go_wp2
    go_ret
    exact ⟨ret_bool (unhide HR).symm, ((Below.refl _ _).alloc (Nat.le_refl _) _).alloc (by simp) _⟩
  | true =>
  by_cases hpb : pub = pub'
  case neg =>
    have HR : Hid (R = false) := hide (by rw [unhide HX, beq_eq_false_iff_ne.2 hpb]; simp)
    cases pub <;> cases pub'
    · exact absurd rfl hpb
    · go_enter Try.func47, Try.ntmps47
      go_wp2
      go_ret
      exact ⟨ret_bool (unhide HR).symm, ((Below.refl _ _).alloc (Nat.le_refl _) _).alloc (by simp) _⟩
    · go_enter Try.func47, Try.ntmps47
      go_wp2
      go_ret
      exact ⟨ret_bool (unhide HR).symm, ((Below.refl _ _).alloc (Nat.le_refl _) _).alloc (by simp) _⟩
    · exact absurd rfl hpb
  subst hpb
  have t2 : (pub == pub) = true := by simp
  cases hab : argsB args args' with
  | false =>
    have HR : Hid (R = false) := hide (by rw [unhide HX, hab]; simp)
    go_enter Try.func47, Try.ntmps47
    go_wp2_with fail
    refine (unhide HA _ (((Below.refl _ w).alloc (Nat.le_refl _) _).alloc (by simp) _)).mono ?_
    rintro r w2 ⟨rfl, hb2⟩
    rw [hab]
    have hB2 := ((((Below.refl w.heap.size w).alloc (Nat.le_refl _) _).alloc (by simp) _).trans (hb2.mono (by simp; omega)))
    have n1 : Blk w2 w.heap.size [Value.string nm, .bool pub, .slice aa args.length ca, .int .i64 ty, .int .i64 xk, .int .i64 xm, .string xn, .string xd, .slice xa xl xc] := ((Blk.new w [Value.string nm, .bool pub, .slice aa args.length ca, .int .i64 ty, .int .i64 xk, .int .i64 xm, .string xn, .string xd, .slice xa xl xc] 63).old _ (by simp)).below hb2 (by simp; omega)
    have n2 : Blk w2 (w.heap.size + 1) [Value.string nm', .bool pub, .slice aa' args'.length ca', .int .i64 ty', .int .i64 yk, .int .i64 ym, .string yn, .string yd, .slice ya yl yc] := by
      have := (Blk.new (w.alloc (.cells #[Value.string nm, .bool pub, .slice aa args.length ca, .int .i64 ty, .int .i64 xk, .int .i64 xm, .string xn, .string xd, .slice xa xl xc] 63)) [Value.string nm', .bool pub, .slice aa' args'.length ca', .int .i64 ty', .int .i64 yk, .int .i64 ym, .string yn, .string yd, .slice ya yl yc] 63).below hb2 (by simp)
      rw [alloc_size] at this
      exact this
    have hz2 : w.heap.size + 1 < w2.heap.size := by have := hb2.size; rw [alloc_size, alloc_size] at this; omega
    have p3 := n1.cellAt (i := 3) rfl
    have r3 := n2.cellAt (i := 3) rfl
    have p4 := n1.cellAt (i := 4) rfl
    have r4 := n2.cellAt (i := 4) rfl
    have p5 := n1.cellAt (i := 5) rfl
    have r5 := n2.cellAt (i := 5) rfl
    have p6 := n1.cellAt (i := 6) rfl
    have r6 := n2.cellAt (i := 6) rfl
    have p7 := n1.cellAt (i := 7) rfl
    have r7 := n2.cellAt (i := 7) rfl
    have p8 := n1.cellAt (i := 8) rfl
    have r8 := n2.cellAt (i := 8) rfl
    have HB2 := hide hB2
    clear hb2 hB2 n1 n2 HA
    go_wp2
    go_ret
    exact ⟨ret_bool (unhide HR).symm, unhide HB2⟩
  | true =>
  cases t3 : (ty == ty') with
  | false =>
    have HR : Hid (R = false) := hide (by rw [unhide HX, t3]; simp)
    go_enter Try.func47, Try.ntmps47
    go_wp2_with fail
    refine (unhide HA _ (((Below.refl _ w).alloc (Nat.le_refl _) _).alloc (by simp) _)).mono ?_
    rintro r w2 ⟨rfl, hb2⟩
    rw [hab]
    have hB2 := ((((Below.refl w.heap.size w).alloc (Nat.le_refl _) _).alloc (by simp) _).trans (hb2.mono (by simp; omega)))
    have n1 : Blk w2 w.heap.size [Value.string nm, .bool pub, .slice aa args.length ca, .int .i64 ty, .int .i64 xk, .int .i64 xm, .string xn, .string xd, .slice xa xl xc] := ((Blk.new w [Value.string nm, .bool pub, .slice aa args.length ca, .int .i64 ty, .int .i64 xk, .int .i64 xm, .string xn, .string xd, .slice xa xl xc] 63).old _ (by simp)).below hb2 (by simp; omega)
    have n2 : Blk w2 (w.heap.size + 1) [Value.string nm', .bool pub, .slice aa' args'.length ca', .int .i64 ty', .int .i64 yk, .int .i64 ym, .string yn, .string yd, .slice ya yl yc] := by
      have := (Blk.new (w.alloc (.cells #[Value.string nm, .bool pub, .slice aa args.length ca, .int .i64 ty, .int .i64 xk, .int .i64 xm, .string xn, .string xd, .slice xa xl xc] 63)) [Value.string nm', .bool pub, .slice aa' args'.length ca', .int .i64 ty', .int .i64 yk, .int .i64 ym, .string yn, .string yd, .slice ya yl yc] 63).below hb2 (by simp)
      rw [alloc_size] at this
      exact this
    have hz2 : w.heap.size + 1 < w2.heap.size := by have := hb2.size; rw [alloc_size, alloc_size] at this; omega
    have p3 := n1.cellAt (i := 3) rfl
    have r3 := n2.cellAt (i := 3) rfl
    have p4 := n1.cellAt (i := 4) rfl
    have r4 := n2.cellAt (i := 4) rfl
    have p5 := n1.cellAt (i := 5) rfl
    have r5 := n2.cellAt (i := 5) rfl
    have p6 := n1.cellAt (i := 6) rfl
    have r6 := n2.cellAt (i := 6) rfl
    have p7 := n1.cellAt (i := 7) rfl
    have r7 := n2.cellAt (i := 7) rfl
    have p8 := n1.cellAt (i := 8) rfl
    have r8 := n2.cellAt (i := 8) rfl
    have HB2 := hide hB2
    clear hb2 hB2 n1 n2 HA
    go_wp2
    go_ret
    exact ⟨ret_bool (unhide HR).symm, unhide HB2⟩
  | true =>
  have HR : Hid (sameL [body] [body'] = R) := hide (by rw [unhide HX, t1, t2, t3, hab, sameL, sameL]; simp)
  clear HX
  go_enter Try.func47, Try.ntmps47
  go_wp2_with fail
  refine (unhide HA _ (((Below.refl _ w).alloc (Nat.le_refl _) _).alloc (by simp) _)).mono ?_
  rintro r w2 ⟨rfl, hb2⟩
  rw [hab]
  have hB2 := ((((Below.refl w.heap.size w).alloc (Nat.le_refl _) _).alloc (by simp) _).trans (hb2.mono (by simp; omega)))
  have n1 : Blk w2 w.heap.size [Value.string nm, .bool pub, .slice aa args.length ca, .int .i64 ty, .int .i64 xk, .int .i64 xm, .string xn, .string xd, .slice xa xl xc] := ((Blk.new w [Value.string nm, .bool pub, .slice aa args.length ca, .int .i64 ty, .int .i64 xk, .int .i64 xm, .string xn, .string xd, .slice xa xl xc] 63).old _ (by simp)).below hb2 (by simp; omega)
  have n2 : Blk w2 (w.heap.size + 1) [Value.string nm', .bool pub, .slice aa' args'.length ca', .int .i64 ty', .int .i64 yk, .int .i64 ym, .string yn, .string yd, .slice ya yl yc] := by
    have := (Blk.new (w.alloc (.cells #[Value.string nm, .bool pub, .slice aa args.length ca, .int .i64 ty, .int .i64 xk, .int .i64 xm, .string xn, .string xd, .slice xa xl xc] 63)) [Value.string nm', .bool pub, .slice aa' args'.length ca', .int .i64 ty', .int .i64 yk, .int .i64 ym, .string yn, .string yd, .slice ya yl yc] 63).below hb2 (by simp)
    rw [alloc_size] at this
    exact this
  have hz2 : w.heap.size + 1 < w2.heap.size := by have := hb2.size; rw [alloc_size, alloc_size] at this; omega
  have p3 := n1.cellAt (i := 3) rfl
  have r3 := n2.cellAt (i := 3) rfl
  have p4 := n1.cellAt (i := 4) rfl
  have r4 := n2.cellAt (i := 4) rfl
  have p5 := n1.cellAt (i := 5) rfl
  have r5 := n2.cellAt (i := 5) rfl
  have p6 := n1.cellAt (i := 6) rfl
  have r6 := n2.cellAt (i := 6) rfl
  have p7 := n1.cellAt (i := 7) rfl
  have r7 := n2.cellAt (i := 7) rfl
  have p8 := n1.cellAt (i := 8) rfl
  have r8 := n2.cellAt (i := 8) rfl
  have HB2 := hide hB2
  clear hb2 hB2 n1 n2 HA
  go_wp2_with fail
  refine (unhide HE _ (unhide HB2)).mono ?_
  rintro r w3 ⟨rfl, hb3⟩
  rw [unhide HR]
  have HB3 : Hid (Below w.heap.size w w3) := hide ((((unhide HB2).alloc (unhide HB2).size _).alloc (by have := (unhide HB2).size; simp; omega) _).trans (hb3.mono (by have := (unhide HB2).size; simp; omega)))
  clear hb3 p3 p4 p5 p6 p7 p8 r3 r4 r5 r6 r7 r8 HE
  go_wp2
  go_ret
  exact ⟨rfl, unhide HB3⟩
end Go.Proofs.Ytambkcchnmbaoaa
