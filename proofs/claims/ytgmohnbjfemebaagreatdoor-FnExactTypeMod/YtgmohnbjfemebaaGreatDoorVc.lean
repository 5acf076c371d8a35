/- The walks of impl.treeKindOf and of treeCheck.right. Conditions: the expression can be read; the counter lies in a block of its own. -/
import Derived.Test.YtgmohnbjfemebaaGreatDoorVa
import Derived.Laws.AppendOwn
namespace Go.Proofs.YtgmohnbjfemebaaGreatDoor
open Go.RowKit Go.PlainAid

abbrev EV (k m : Int) (nm md : ByteArray) (a : Option Addr) (len cap : Nat) : Value := .agg #[.int .i64 k, .int .i64 m, .string nm, .string md, .slice a len cap]
/-- An interface value of the type T that holds v: its right is the function F, which says R. -/
def RightOf (T F : Nat) (v : Value) (R : Bool) : Prop := (∀ W, (method 384 T v "loop.example/smithy/impl.right").run Tryz.prog W = .ok (F, v) W) ∧ (∀ W, (callFunc F #[v]).run Tryz.prog W = .ok (.enter F #[v]) W) ∧ (∀ W, Calls Tryz.prog F #[v] W fun r w' => r = .returned (.bool R) ∧ Below W.heap.size W w')

set_option maxRecDepth 100000 in
set_option maxHeartbeats 2000000 in
theorem kind_any (k m : Int) (nm md : ByteArray) (a : Option Addr) (len cap : Nat) (w : World) (hl : len ≤ maxLen) :
    Calls Tryz.prog 69 #[EV k m nm md a len cap] w fun r w' => ∃ T F, r = .returned (.iface T (EV k m nm md a len cap)) ∧ RightOf T F (EV k m nm md a len cap) (nodeB k m nm md len) ∧ Below w.heap.size w w' := by
  have hk : k = 1 ∨ k = 2 ∨ k = 3 ∨ k = 4 ∨ k = 5 ∨ k = 6 ∨ k = 7 ∨ k = 8 ∨ ((k == 1) = false ∧ (k == 2) = false ∧ (k == 3) = false ∧ (k == 4) = false ∧ (k == 5) = false ∧ (k == 6) = false ∧ (k == 7) = false ∧ (k == 8) = false) := by
    simp only [beq_eq_false_iff_ne]; omega
  rcases hk with rfl | rfl | rfl | rfl | rfl | rfl | rfl | rfl | ⟨n1, n2, n3, n4, n5, n6, n7, n8⟩
  · go_enter Tryz.func69, Tryz.ntmps69
    go_wp2
    go_ret
    exact ⟨188, 169, rfl, ⟨fun _ => by kernel_rfl, fun _ => by kernel_rfl, fun W => right1 1 m nm md a len cap W hl⟩, ((Below.refl _ _).alloc (Nat.le_refl _) _).alloc (by simp) _⟩
  · go_enter Tryz.func69, Tryz.ntmps69
    go_wp2
    go_ret
    exact ⟨189, 172, rfl, ⟨fun _ => by kernel_rfl, fun _ => by kernel_rfl, fun W => right2 2 m nm md a len cap W hl⟩, ((Below.refl _ _).alloc (Nat.le_refl _) _).alloc (by simp) _⟩
  · go_enter Tryz.func69, Tryz.ntmps69
    go_wp2
    go_ret
    exact ⟨190, 174, rfl, ⟨fun _ => by kernel_rfl, fun _ => by kernel_rfl, fun W => right3 3 m nm md a len cap W hl⟩, ((Below.refl _ _).alloc (Nat.le_refl _) _).alloc (by simp) _⟩
  · go_enter Tryz.func69, Tryz.ntmps69
    go_wp2
    go_ret
    exact ⟨191, 176, rfl, ⟨fun _ => by kernel_rfl, fun _ => by kernel_rfl, fun W => right4 4 m nm md a len cap W hl⟩, ((Below.refl _ _).alloc (Nat.le_refl _) _).alloc (by simp) _⟩
  · go_enter Tryz.func69, Tryz.ntmps69
    go_wp2
    go_ret
    exact ⟨192, 179, rfl, ⟨fun _ => by kernel_rfl, fun _ => by kernel_rfl, fun W => right5 5 m nm md a len cap W hl⟩, ((Below.refl _ _).alloc (Nat.le_refl _) _).alloc (by simp) _⟩
  · go_enter Tryz.func69, Tryz.ntmps69
    go_wp2
    go_ret
    exact ⟨193, 181, rfl, ⟨fun _ => by kernel_rfl, fun _ => by kernel_rfl, fun W => right6 6 m nm md a len cap W hl⟩, ((Below.refl _ _).alloc (Nat.le_refl _) _).alloc (by simp) _⟩
  · go_enter Tryz.func69, Tryz.ntmps69
    go_wp2
    go_ret
    exact ⟨194, 183, rfl, ⟨fun _ => by kernel_rfl, fun _ => by kernel_rfl, fun W => right7 7 m nm md a len cap W hl⟩, ((Below.refl _ _).alloc (Nat.le_refl _) _).alloc (by simp) _⟩
  · go_enter Tryz.func69, Tryz.ntmps69
    go_wp2
    go_ret
    exact ⟨195, 185, rfl, ⟨fun _ => by kernel_rfl, fun _ => by kernel_rfl, fun W => right8 8 m nm md a len cap W hl⟩, ((Below.refl _ _).alloc (Nat.le_refl _) _).alloc (by simp) _⟩
  · have HN := hide (nodeB_none m nm md len n1 n2 n3 n4 n5 n6 n7 n8)
    go_enter Tryz.func69, Tryz.ntmps69
    go_wp2
    go_ret
    refine ⟨196, 187, rfl, ⟨fun _ => by kernel_rfl, fun _ => by kernel_rfl, fun W => ?_⟩, ((Below.refl _ _).alloc (Nat.le_refl _) _).alloc (by simp) _⟩
    rw [unhide HN]
    exact right0 _ W k m nm md a len cap rfl

theorem gr_below {w w' : World} (hb : Below w.heap.size w w') (row : Option Nat) : w.grownBy w' row := ⟨hb.os, hb.tape, hb.output, hb.size, fun k hk _ => hb.block k hk⟩
theorem gr_refl (w : World) (row : Option Nat) : w.grownBy w row := ⟨rfl, rfl, rfl, Nat.le_refl _, fun _ _ _ => rfl⟩
theorem gr_trans {a b c : World} {row : Option Nat} (h : a.grownBy b row) (k : b.grownBy c row) : a.grownBy c row :=
  ⟨k.os.trans h.os, k.tape.trans h.tape, k.output.trans h.output, Nat.le_trans h.size k.size, fun i hi hr => (k.block i (Nat.lt_of_lt_of_le hi h.size) hr).trans (h.block i hi hr)⟩
theorem gr_set (w : World) (B i : Nat) (v : Value) : w.grownBy (w.setCell ⟨B, i, none⟩ v) (some B) :=
  ⟨rfl, rfl, rfl, by simp [World.setCell], fun k _ hk => Below.heap_setCell _ _ _ _ (fun e => hk (by rw [e]))⟩
/-- A store into a block that is new to w. -/
theorem gr_new {w W : World} {row : Option Nat} (h : w.grownBy W row) (B i : Nat) (v : Value) (hB : w.heap.size ≤ B) : w.grownBy (W.setCell ⟨B, i, none⟩ v) row :=
  ⟨h.os, h.tape, h.output, by simpa [World.setCell] using h.size, fun k hk hr => (Below.heap_setCell _ _ _ _ (by show k ≠ B; omega)).trans (h.block k hk hr)⟩
theorem gr_same {w w' : World} {B lo n : Nat} (h : w.grownBy w' (some B)) (hn : n ≤ B) (hB : B ≤ w.heap.size) : Same lo n w w' := fun b _ h2 => h.block b (by omega) (by simp; omega)
/-- The counter. -/
def Ck (w : World) (B : Nat) (L : Int) : Prop := w.cell? ⟨B, 0, none⟩ = some (.int .i64 L) ∧ w.frozen? ⟨B, 0, none⟩ = false
theorem Ck.below {w w' : World} {B : Nat} {L : Int} (h : Ck w B L) (hb : Below w.heap.size w w') (hB : B < w.heap.size) : Ck w' B L :=
  ⟨(hb.cell (p := ⟨B, 0, none⟩) hB).trans h.1, (hb.frozen (p := ⟨B, 0, none⟩) hB).trans h.2⟩

/-- An expression at a depth is right, with at most L expressions. -/
def TE.rightB (e : TE) (L : Nat) (d : Nat) : Bool := decide (e.nodes ≤ L) && (decide (d + e.deep ≤ 17) && e.ok)
theorem deepL_le_take (l : List TE) (k : Nat) : deepL (l.take k) ≤ deepL l := by
  have := deepL_append (l.take k) (l.drop k)
  rw [List.take_append_drop] at this
  rw [this]; exact Nat.le_max_left _ _
theorem deep_at (l : List TE) (k : Nat) (h : k < l.length) : l[k].deep ≤ deepL l := by
  have h1 := deep_step l k h
  have h2 := deepL_le_take l (k + 1)
  have h3 : l[k].deep ≤ Nat.max (deepL (l.take k)) l[k].deep := Nat.le_max_right _ _
  omega
theorem deep_pos : ∀ e : TE, 1 ≤ e.deep
  | .node _ _ _ _ kids => by rw [TE.deep]; omega

theorem right_no (kd m : Int) (nm md : ByteArray) (kids : List TE) (L d : Nat) (h : L = 0 ∨ 17 ≤ d ∨ nodeB kd m nm md kids.length = false) : (TE.node kd m nm md kids).rightB L d = false := by
  unfold TE.rightB
  rw [TE.nodes, TE.deep, TE.ok]
  rcases h with h | h | h
  · rw [decide_eq_false (by omega)]; rfl
  · rw [decide_eq_false (p := d + (deepL kids + 1) ≤ 17) (by omega)]; simp
  · rw [h]; simp
theorem right_kid (kd m : Int) (nm md : ByteArray) (kids : List TE) (L d k M : Nat) (hk : k < kids.length) (hM : 1 + nodesL (kids.take k) + M = L) (h : kids[k].rightB M (d + 1) = false) : (TE.node kd m nm md kids).rightB L d = false := by
  have h1 := nodes_step kids k hk
  have h2 := nodes_le kids (k + 1)
  have h3 := deep_at kids k hk
  have h4 := ok_bad kids k hk
  unfold TE.rightB at h ⊢
  rw [TE.nodes, TE.deep, TE.ok]
  generalize kids[k] = e at h h1 h3 h4
  by_cases g1 : e.nodes ≤ M
  · by_cases g2 : d + 1 + e.deep ≤ 17
    · rw [decide_eq_true g1, decide_eq_true g2] at h
      rw [h4 (by simpa using h)]; simp
    · rw [decide_eq_false (p := d + (deepL kids + 1) ≤ 17) (by omega)]; simp
  · rw [decide_eq_false (by omega)]; rfl
theorem right_kid_yes {e : TE} {M d : Nat} (h : e.rightB M d = true) : e.nodes ≤ M ∧ d + e.deep ≤ 17 ∧ e.ok = true := by
  unfold TE.rightB at h
  rw [Bool.and_eq_true, Bool.and_eq_true, decide_eq_true_eq, decide_eq_true_eq] at h
  exact h
theorem right_end (kd m : Int) (nm md : ByteArray) (kids : List TE) (L d M : Nat) (hM : 1 + nodesL kids + M = L) (hd : d + 1 + deepL kids ≤ 17) (hn : nodeB kd m nm md kids.length = true) (ho : okL kids = true) : (TE.node kd m nm md kids).rightB L d = true := by
  unfold TE.rightB
  rw [TE.nodes, TE.deep, TE.ok, hn, ho, decide_eq_true (by omega), decide_eq_true (by omega)]; rfl

theorem set_size (w : World) (p : Addr) (v : Value) : (w.setCell p v).heap.size = w.heap.size := by simp [World.setCell]
theorem ck_dec {w : World} {B : Nat} {L : Int} (h : Ck w B L) (hB : B < w.heap.size) (x : Int) (o : Obj) : Ck ((w.setCell ⟨B, 0, none⟩ (.int .i64 x)).alloc o) B x ∧ w.grownBy ((w.setCell ⟨B, 0, none⟩ (.int .i64 x)).alloc o) (some B) := by
  have hb : Below (w.setCell ⟨B, 0, none⟩ (.int .i64 x)).heap.size (w.setCell ⟨B, 0, none⟩ (.int .i64 x)) ((w.setCell ⟨B, 0, none⟩ (.int .i64 x)).alloc o) := (Below.refl _ _).alloc (Nat.le_refl _) _
  refine ⟨Ck.below ⟨cell_same _ _ _ _ (by rw [h.1]; rfl), by rw [World.frozen?_setCell]; exact h.2⟩ hb (by rw [set_size]; exact hB), gr_trans (gr_set _ _ _ _) (World.grownBy_alloc _ _ _)⟩
set_option maxRecDepth 100000 in
set_option maxHeartbeats 4000000 in
theorem checkRight_any (lo n B : Nat) (hnB : n ≤ B) : ∀ (h : Nat) (v : Value) (e : TE) (w : World) (L d : Nat), IsE w lo n h v e → B < w.heap.size → Ck w B L → L ≤ 150 → 1 ≤ d → d ≤ 17 →
    Calls Tryz.prog 34 #[.pointer (some ⟨B, 0, none⟩), v, .int .i64 (d : Int)] w fun r w' => r = .returned (.bool (e.rightB L d)) ∧ ∃ L' : Int, Ck w' B L' ∧ (e.rightB L d = true → L' = (L : Int) - e.nodes) ∧ w.grownBy w' (some B) := by
  intro h
  induction h with
  | zero => intro v e w L d hE; exact hE.elim
  | succ h ih =>
    intro v e w L d hE hB hC hL hd1 hd2
    obtain ⟨kd, m, nm, md, kids⟩ := e
    obtain ⟨a, cap, rfl, ⟨_, _, hs3⟩, hk⟩ := hE
    obtain ⟨hc0, hf0⟩ := hC
    have HK := hide hk
    have IH := hide ih
    have HNB := hide hnB
    have HKD := hide (fun w => kind_any kd m nm md a kids.length cap w hs3)
    unfold maxLen at hs3
    clear hk ih hnB
    by_cases g1 : L = 0
    · subst g1
      have HR := hide (right_no kd m nm md kids 0 d (.inl rfl))
      go_enter Tryz.func34, Tryz.ntmps34
      go_wp2
      go_ret
      refine ⟨ret_bool (unhide HR).symm, _, (ck_dec ⟨hc0, hf0⟩ hB _ _).1, fun h => ?_, (ck_dec ⟨hc0, hf0⟩ hB _ _).2⟩
      rw [unhide HR] at h; simp at h
    have hL1 : 1 ≤ L := by omega
    by_cases g2 : 16 < d
    · have HR := hide (right_no kd m nm md kids L d (.inr (.inl (by omega))))
      go_enter Tryz.func34, Tryz.ntmps34
      go_wp2
      go_ret
      refine ⟨ret_bool (unhide HR).symm, _, (ck_dec ⟨hc0, hf0⟩ hB _ _).1, fun h => ?_, (ck_dec ⟨hc0, hf0⟩ hB _ _).2⟩
      rw [unhide HR] at h; simp at h
    have HCC : Hid (Ck w B L) := hide ⟨hc0, hf0⟩
    go_enter Tryz.func34, Tryz.ntmps34
    go_wp2_with fail
    refine (unhide HKD _).mono ?_
    rintro r w2 ⟨T, F, rfl, hR, hb2⟩
    obtain ⟨hk1, hk2⟩ := ck_dec (unhide HCC) hB ((L : Int) - 1) (.cells #[.int .i64 kd, .int .i64 m, .string nm, .string md, .slice a kids.length cap] 31)
    have hk3 := hk1.below hb2 (by simp; omega)
    have hk4 := gr_trans hk2 (gr_below hb2 _)
    have n1 : Blk w2 w.heap.size [.int .i64 kd, .int .i64 m, .string nm, .string md, .slice a kids.length cap] := by
      have := (Blk.new (w.setCell ⟨B, 0, none⟩ (.int .i64 ((L : Int) - 1))) [.int .i64 kd, .int .i64 m, .string nm, .string md, .slice a kids.length cap] 31).below hb2 (by simp)
      rw [set_size] at this
      exact this
    have hz2 : w.heap.size < w2.heap.size := by have := hb2.size; rw [alloc_size, set_size] at this; omega
    obtain ⟨hm0, he0, hcall⟩ := hR
    have hen : ∀ W, (callFunc F #[.agg #[.int .i64 kd, .int .i64 m, .string nm, .string md, .slice a kids.length cap]]).run Tryz.prog W = .ok (.enter F #[.agg #[.int .i64 kd, .int .i64 m, .string nm, .string md, .slice a kids.length cap]]) W := he0
    clear he0
    have hm : ∀ W, (method 384 T (.agg #[.int .i64 kd, .int .i64 m, .string nm, .string md, .slice a kids.length cap]) "loop.example/smithy/impl.right").run Tryz.prog W = .ok (F, .agg #[.int .i64 kd, .int .i64 m, .string nm, .string md, .slice a kids.length cap]) W := hm0
    clear hm0
    have N1 := hide n1
    have HC2 := hide hk3
    have HG2 := hide hk4
    have HZ2 := hide hz2
    have HCALL := hide hcall
    clear hb2 hk1 hk2 hk3 hk4 n1 hz2 hcall hc0 hf0 HKD HCC
    go_wp2_with fail
    refine (unhide HCALL w2).mono ?_
    rintro r w3 ⟨rfl, hb3⟩
    have p4 := ((unhide N1).below hb3 (unhide HZ2)).cellAt (i := 4) rfl
    have HC3 := hide ((unhide HC2).below hb3 (by have := unhide HZ2; omega))
    have HG3 := hide (gr_trans (unhide HG2) (gr_below hb3 _))
    have HZ3 : Hid (w.heap.size < w3.heap.size) := hide (by have := unhide HZ2; have := hb3.size; omega)
    clear hm hen hb3 N1 HC2 HG2 HZ2 HCALL
    cases hnb : nodeB kd m nm md kids.length with
    | false =>
      have HR := hide (right_no kd m nm md kids L d (.inr (.inr hnb)))
      go_wp2
      go_ret
      refine ⟨ret_bool (unhide HR).symm, _, unhide HC3, fun h => ?_, unhide HG3⟩
      rw [unhide HR] at h; simp at h
    | true =>
    have HNB2 := hide hnb
    clear hnb
    go_wp2
    clear p4
    go_loopw [34] (fun i wr => ∃ k M : Nat, k ≤ kids.length ∧ i = .int .i64 k ∧ M ≤ 150 ∧ Hid (1 + nodesL (kids.take k) + M = L) ∧ Hid (d + 1 + deepL (kids.take k) ≤ 17) ∧ Hid (okL (kids.take k) = true) ∧ Hid (Ck wr B M) ∧ Hid (w.grownBy wr (some B))) (fun i _ => kids.length - (intOf i).toNat)
    case atStart =>
      refine ⟨0, L - 1, Nat.zero_le _, rfl, by omega, hide (by simp [nodesL]; omega), hide (by simp [deepL]; omega), hide rfl, ?_, HG3⟩
      have e : ((L - 1 : Nat) : Int) = (L : Int) - 1 := by omega
      rw [e]; exact HC3
    case round =>
      clear HC3 HG3 HZ3
      obtain ⟨k, M, hk, rfl, hM, HM, HD, HO, HC, HG⟩ := hrel
      have hBr : B < wr.heap.size := by have := (unhide HG).size; omega
      by_cases hp : k < kids.length
      · have hsm : Same lo n w wr := gr_same (unhide HG) (unhide HNB) (by omega)
        rcases (unhide HK).mono (IsE.same hsm (Nat.le_refl _) (Nat.le_refl _) h) hsm (Nat.le_refl _) (Nat.le_refl _) with hq | ⟨b, off, rfl, hbl, hbn, hcs⟩
        · rw [hq] at hp; simp at hp
        obtain ⟨c0, c1, c2, c3, c4, d0, d1, d2, d3, d4, hr⟩ := hcs k hp
        have hs1 := nodes_step kids k hp
        have hs2 := deep_step kids k hp
        have hs3' := ok_step kids k hp
        have hs4 := right_kid kd m nm md kids L d k M hp (unhide HM)
        obtain ⟨e, he⟩ : ∃ e, kids[k] = e := ⟨_, rfl⟩
        rw [he] at hr hs1 hs2 hs3' hs4
        obtain ⟨xk, xm, xn, xd, xa, xl, xc, rfl, rfl, rfl, rfl, rfl⟩ := hr.form5
        have hbz : b < wr.heap.size := by have := unhide HNB; omega
        have HS1 := hide hs1
        have HS2 := hide hs2
        have HS3 := hide hs3'
        have HS4 := hide hs4
        have HE := hide hr
        have HCALL : Hid (∀ W, Below wr.heap.size wr W → Calls Tryz.prog 34 #[.pointer (some ⟨B, 0, none⟩), EV xk xm xn xd xa xl xc, .int .i64 ((d : Int) + 1)] W fun r w' => r = .returned (.bool (e.rightB M (d + 1))) ∧ ∃ L' : Int, Ck w' B L' ∧ (e.rightB M (d + 1) = true → L' = (M : Int) - e.nodes) ∧ W.grownBy w' (some B)) := hide (fun W hb => by
          have := unhide IH _ e W M (d + 1) (IsE.same (fun b _ h2 => hb.block b (by have := unhide HNB; omega)) (Nat.le_refl _) (Nat.le_refl _) h _ _ (unhide HE)) (by have := hb.size; omega) ((unhide HC).below hb hBr) hM (by omega) (by omega)
          rw [show (((d + 1 : Nat)) : Int) = (d : Int) + 1 from by omega] at this
          exact this)
        clear hcs hr hs1 hs2 hs3' hs4 he hsm
        go_wp2_with fail
        refine (unhide HCALL _ ?hb).mono ?_
        case hb => exact (Below.refl _ _).alloc (Nat.le_refl _) _
        rintro r w4 ⟨rfl, L', hC4, hL4, hG4⟩
        have HG4 := hide (gr_trans (unhide HG) (gr_trans (World.grownBy_alloc _ _ _) hG4))
        have HC4 := hide hC4
        have HL4 := hide hL4
        clear hC4 hL4 hG4 HC HG HCALL d0 d1 d2 d3 d4 HE
        cases hrk : e.rightB M (d + 1) with
        | false =>
          have HR := hide (unhide HS4 hrk)
          go_wp2
          go_ret
          refine ⟨ret_bool (unhide HR).symm, _, unhide HC4, fun h => ?_, unhide HG4⟩
          rw [unhide HR] at h; simp at h
        | true =>
          obtain ⟨y1, y2, y3⟩ := right_kid_yes hrk
          have HX : Hid (1 + nodesL (kids.take (k + 1)) + (M - e.nodes) = L ∧ d + 1 + deepL (kids.take (k + 1)) ≤ 17 ∧ okL (kids.take (k + 1)) = true ∧ Ck w4 B ((M - e.nodes : Nat) : Int)) := hide (by
            refine ⟨by rw [unhide HS1]; have := unhide HM; omega, ?_, by rw [unhide HS3, unhide HO, y3]; rfl, ?_⟩
            · rw [unhide HS2]
              have := unhide HD
              have : Nat.max (deepL (kids.take k)) e.deep ≤ 16 - d := Nat.max_le.2 ⟨by omega, by omega⟩
              omega
            · have := unhide HL4 hrk
              rw [show ((M - e.nodes : Nat) : Int) = L' from by omega]
              exact unhide HC4)
          have hM2 : M - e.nodes ≤ 150 := by omega
          clear y1 y2 y3
          go_wp2
          go_roundw
          case rel => exact ⟨k + 1, M - e.nodes, by omega, by go_num, hM2, hide (unhide HX).1, hide (unhide HX).2.1, hide (unhide HX).2.2.1, hide (unhide HX).2.2.2, HG4⟩
          case measure => simp [intOf]; omega
      · have he : kids.take k = kids := List.take_of_length_le (by omega)
        rw [he] at HM HD HO
        have HR := hide (right_end kd m nm md kids L d M (unhide HM) (unhide HD) (unhide HNB2) (unhide HO))
        clear he
        go_wp2
        go_ret
        refine ⟨ret_bool (unhide HR).symm, _, unhide HC, fun _ => ?_, unhide HG⟩
        rw [TE.nodes]; have := unhide HM; omega
end Go.Proofs.YtgmohnbjfemebaaGreatDoor
