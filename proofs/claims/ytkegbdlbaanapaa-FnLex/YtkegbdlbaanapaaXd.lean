/- The walk of impl.LexCut at a clean text that is not too long. -/
import Derived.Test.YtkegbdlbaanapaaXc
namespace Go.Proofs.Ytkegbdlbaanapaa
open Go.RowKit Go.PlainAid Go.Shelf
attribute [local go_sem] Oper.semAt_some

/-- append onto a row that the call owns, as one step of a region that draws its order, inside a fence. -/
theorem stepIn_append_own {F : Fence} {n : Nat} {P : Program} {ops : Array Oper} {o : Oper} {a : Act} {w : World} {K : Act → World → Prop} {Q : Exit → Act → World → Prop} {E : Prop}
    (hg : o.guard = none) (s x : Operand) (t : TypeId) (hop : o.op = Op.call { callee := Callee.builtin Builtin.append, args := #[s, x], argTypes := #[t, t] })
    (base : Nat) (e : TypeId) (i : TypeInfo) (z : Value) (size bytes : Nat) (h1 : P.underlying t = some (.slice e)) (h2 : P.info? e = some i) (h3 : i.zero = some z) (h4 : i.size = size) (h5 : i.bytes = bytes) (h6 : z.cells.size = size) (h7 : 0 < size)
    (v : Value) (k : Nat) (xs : List Value) (hs : a.eval s = v) (hown : w.ownsRow base e size v k xs) (ad : Addr) (m c : Nat) (news : List Value) (hx : a.eval x = .slice (some ad) m c) (hn : news.length = m * size)
    (hc : ∀ j u, news[j]? = some u → w.cell? (ad.add j) = some u) (h1c : ∀ u ∈ news, u.oneCell' = true) (b1 : k + m ≤ maxLen) (b2 : (k + m) * bytes ≤ 140737488355328) (b3 : base ≤ w.heap.size)
    (hK : ∀ v' w', w'.ownsRow base e size v' (k + m) (xs ++ news) → w.grownBy w' v.ownBlock → K (a.put o.dst v') w') :
    if Region.wanted o (yielded ops a.tmps) = true then Oper.wpIn F n P o a w K Q else E := by
  have hw : Region.wanted o (yielded ops a.tmps) = true := by simp [Region.wanted, hg]
  rw [if_pos hw]
  obtain ⟨v', w', hrun, r1, r2, _⟩ := run_append_own (P := P) w base t o.type e i z size bytes h1 h2 h3 h4 h5 h6 h7 v k xs hown ad m c news hn hc h1c b1 b2 b3
  unfold Oper.wpIn
  refine ⟨?_, ?_⟩
  · simp [Oper.about, hop, resolve, Target.leads, Sem.run_pure]
  · rw [Oper.semAt_plain F _ _ (by rw [hop]; intro c hc'; cases hc')]
    simp [execOp, hop, resolve, invoke, builtin, hs, hx, hrun, Result.andThen]
    exact hK v' w' r1 r2

theorem lexWords_in (n : Nat) (s : ByteArray) (w : World) :
    CallsIn Fence.wide n Try.prog 39 #[.string s] w fun e w' => e = .returned (.func (.func 55) #[] #[.pointer (some ⟨w.heap.size, 0, none⟩)]) ∧ w' = w.alloc (.cells #[.string s] 9) := by
  refine callsIn_of_wp Try.func39 rfl trivial ?_ rfl
  simp only [Try.ntmps39, List.size_toArray, List.length_cons, List.length_nil, Nat.reduceAdd, Nat.reduceSub, Array.replicate_succ, Array.replicate_zero, List.push_toArray, List.append_toArray, List.nil_append, List.cons_append]
  gi_wp2
  go_ret
  exact ⟨rfl, rfl⟩

theorem sinfo9 : (Try.prog.info? 9).map (fun i => (i.zero, i.size, i.bytes)) = some (some (.string ⟨#[]⟩), 1, 16) := by kernel_rfl

theorem keepT_t {T : Nat} {A B C : World} (h : KeepT T A B) (k : KeepT T B C) : KeepT T A C := ⟨h.1.trans k.1, k.2.trans h.2⟩
theorem keepT_b {T : Nat} {w : World} (hT : T < w.heap.size) (W : World) (l : Nat) (o o' : Obj) (hl : w.heap.size ≤ l) (h : W.heap[l]? = some o) (hc : o.isCells = false) (hw : o.isWalk = false) : KeepT T W (W.putObj l o') :=
  ⟨walksK_b (w := w) W l o o' hl h hc hw, World.putObj_heap_other (by omega)⟩
/-- A word that a round is handed. -/
abbrev Wd := { x : ByteArray // x.size ≤ 4000 }
def vals (p : List Wd) : List ByteArray := p.map Subtype.val
theorem vals_snoc (p : List Wd) (x : Wd) : vals (p ++ [x]) = vals p ++ [x.1] := by unfold vals; rw [List.map_append]; rfl
theorem vals_len (p : List Wd) : (vals p).length = p.length := List.length_map _
theorem lexWords_stops (n T : Nat) (hn : 1 ≤ n) (s : ByteArray) (hs : s.size ≤ 4000) (hcl : cleanB s = true) (w : World) (hT : T < w.heap.size) (hbox : w.heap[T]? = some (.cells #[.string s] 9 (0, 0))) :
    SeqStopsK Fence.wide n Try.prog 55 #[.pointer (some ⟨T, 0, none⟩)] (fun x : Wd => #[Value.string x.1]) (KeepT T) (fun ys => vals ys = wordsOf s) (fun pre => vals pre <+: wordsOf s) (wordsOf s).length w := fun l J Jx W hW hJ _ hY h0 => by
  refine (lexWords1_in n l T hn s hs hcl (fun pre W => ∃ p, vals p = pre ∧ J p W) (fun pre W => ∃ p, vals p = pre ∧ Jx p W) W (by have := hW.size; omega) ((hW.block T hT).trans hbox)
    (fun pre A B row hj hg hr => ?_) (fun pre x W1 hx hj hlen => ?_) ⟨[], rfl, h0⟩).mono ?_
  · obtain ⟨p, hp, hj⟩ := hj
    exact ⟨p, hp, hJ p A B row hj hg hr⟩
  · obtain ⟨p, rfl, hj⟩ := hj
    rw [vals_len] at hlen
    obtain ⟨fn, tmps, assign, body, hy, hR⟩ := hY p ⟨x, hx⟩ W1 hj hlen
    refine ⟨fn, tmps, assign, body, hy, hR.mono ?_⟩
    rintro e W' (⟨he, h1, h2⟩ | ⟨he, h1⟩)
    · exact .inl ⟨he, ⟨_, vals_snoc p ⟨x, hx⟩, h1⟩, h2⟩
    · exact .inr ⟨he, _, vals_snoc p ⟨x, hx⟩, h1⟩
  · rintro e W' ⟨hv, ⟨ys, hys, p, hp, hj⟩ | ⟨pre, hpre, p, hp, hj⟩⟩
    · exact ⟨hv, .inl ⟨p, hp.trans hys, hj⟩⟩
    · exact ⟨hv, .inr ⟨p, (show vals p <+: wordsOf s by rw [hp]; exact hpre), hj⟩⟩
/-- The box B holds a slice that owns the texts ws, its row at or beyond the block m. -/
def Holds (W : World) (B m : Nat) (ws : List ByteArray) : Prop := ∃ v, Boxed W B 23 v ∧ W.ownsRow m 9 1 v ws.length (ws.map Value.string)
theorem row_slice {W : World} {m e size k : Nat} {v : Value} {xs : List Value} (h : W.ownsRow m e size v k xs) : ∃ ao n cap, v = .slice ao n cap := by
  rcases h.2 with ⟨rfl, _⟩ | ⟨g, cap, _, rfl, _⟩
  · exact ⟨_, _, _, rfl⟩
  · exact ⟨_, _, _, rfl⟩
theorem row_slice_len {W : World} {m e size k : Nat} {v : Value} {xs : List Value} (h : W.ownsRow m e size v k xs) : ∃ ao cap, v = .slice ao k cap := by
  rcases h.2 with ⟨rfl, rfl⟩ | ⟨g, cap, _, rfl, _⟩
  · exact ⟨_, _, rfl⟩
  · exact ⟨_, _, rfl⟩
theorem row_off {W : World} {m e size k B : Nat} {v : Value} {xs : List Value} (h : W.ownsRow m e size v k xs) (hB : B < m) : v.ownBlock ≠ some B := fun e => by
  have := (h.lt B e).1
  omega
theorem row_base {W : World} {m m' e size k : Nat} {v : Value} {xs : List Value} (h : W.ownsRow m e size v k xs) (hm : m' ≤ m) : W.ownsRow m' e size v k xs := by
  refine ⟨h.1, ?_⟩
  rcases h.2 with h2 | ⟨g, cap, cur, h3, h4, h5⟩
  · exact .inl h2
  · exact .inr ⟨g, cap, cur, h3, Nat.le_trans hm h4, h5⟩
/-- What is so between two rounds. -/
def Acc (w : World) (V m : Nat) (pre : List Wd) (W : World) : Prop :=
  Holds W V m (vals pre) ∧ Boxed W w.heap.size 23 (.slice none 0 0) ∧ Boxed W (w.heap.size + 1) 4 (.bool false) ∧ pre.length ≤ 1500 ∧ m ≤ W.heap.size ∧ Below w.heap.size w W
/-- What is so where a round has left. -/
def Left (w : World) (c : Code) (pre : List Wd) (W : World) : Prop :=
  c = .ret ∧ Boxed W w.heap.size 23 (.slice none 0 0) ∧ Boxed W (w.heap.size + 1) 4 (.bool false) ∧ 1500 < pre.length ∧ Below w.heap.size w W
theorem boxed_turn {X Y : World} {row : Option Nat} {B : Nat} {t : TypeId} {v : Value} (h : Boxed X B t v) (hg : X.grownBy Y row) (hr : ∀ r, row = some r → ∃ o : Obj, X.heap[r]? = some o ∧ o.isCells = false) : Boxed Y B t v := by
  refine h.kept hg (fun e => ?_)
  obtain ⟨o, ho, hc⟩ := hr B e.symm
  rw [show X.heap[B]? = _ from h] at ho
  cases ho
  cases hc
theorem acc_own (w : World) (V m B : Nat) (hB : w.heap.size ≤ B) : OwnFrom B (Acc w V m) := by
  rintro s X Y row ⟨⟨v, hv, hr⟩, h1, h2, h3, hm, h4⟩ hg hrow
  have hrow' : ∀ r, row = some r → ∃ o : Obj, X.heap[r]? = some o ∧ o.isCells = false := fun r e => (hrow r e).2
  obtain ⟨v', hv', hr', _⟩ := holdsRow_own (β := List Wd) m V 23 9 1 (fun l => (vals l).length) (fun l => (vals l).map Value.string) (fun _ _ => True) s X Y row ⟨v, hv, hr, trivial⟩ hg hrow'
  exact ⟨⟨v', hv', hr'⟩, boxed_turn h1 hg hrow', boxed_turn h2 hg hrow', h3, Nat.le_trans hm hg.size, ownFrom_below (β := List Wd) (Nat.le_refl _) hB s X Y row h4 hg hrow⟩
theorem left_own (w : World) (B : Nat) (hB : w.heap.size ≤ B) (c : Code) : OwnFrom B (Left w c) := by
  rintro s X Y row ⟨h0, h1, h2, h3, h4⟩ hg hrow
  have hrow' : ∀ r, row = some r → ∃ o : Obj, X.heap[r]? = some o ∧ o.isCells = false := fun r e => (hrow r e).2
  exact ⟨h0, boxed_turn h1 hg hrow', boxed_turn h2 hg hrow', h3, ownFrom_below (β := List Wd) (Nat.le_refl _) hB s X Y row h4 hg hrow⟩

theorem keeps_walks {W W' : World} (h : KeepsOthers W W') : KeepsWalks W W' := ⟨h.size, fun k o hk ho => h.same k o hk (Obj.not_cells_of_walk ho)⟩
theorem keeps_below {W W' : World} (h : Below W.heap.size W W') : KeepsOthers W W' := ⟨h.size, fun k _ hk _ => (h.block k (Array.getElem?_eq_some_iff.1 hk).1).trans hk⟩
theorem row_up {W W1 : World} {m k : Nat} {v : Value} {xs : List Value} (h : W.ownsRow m 9 1 v k xs) (hcl : Below W.heap.size W W1) (_ : m ≤ W.heap.size) (o : Obj) : (W1.alloc o).ownsRow m 9 1 v k xs := by
  refine World.ownsRow.alloc ?_ o
  refine h.kept (row := none) ⟨hcl.os, hcl.tape, hcl.output, hcl.size, fun k hk _ => hcl.block k hk⟩ ?_
  cases hv : v.ownBlock
  · exact .inl rfl
  · exact .inr (by simp)
/-- Behind a round that has appended its word. -/
theorem round_done {w W W1 w2 : World} {V m : Nat} {pre : List Wd} {x : Wd} {v v' : Value} (hv : Boxed W V 23 v) (hrow : W.ownsRow m 9 1 v pre.length ((vals pre).map Value.string))
    (hb1 : Boxed W w.heap.size 23 (.slice none 0 0)) (hb2 : Boxed W (w.heap.size + 1) 4 (.bool false)) (hlen : pre.length < 1500) (hmW : m ≤ W.heap.size) (hB : Below w.heap.size w W) (hwV : w.heap.size + 1 < V) (hVm : V + 1 < m)
    (hcl : Below W.heap.size W W1) (hgrow : (W1.alloc (.cells #[.string x.1] 9)).grownBy w2 v.ownBlock) (hown : w2.ownsRow m 9 1 v' (pre.length + 1) ((vals pre).map Value.string ++ [.string x.1])) :
    Boxed w2 V 23 v ∧ KeepsOthers W (w2.setCell ⟨V, 0, none⟩ v') ∧ KeepT (V + 1) W (w2.setCell ⟨V, 0, none⟩ v') ∧ Acc w V m (pre ++ [x]) (w2.setCell ⟨V, 0, none⟩ v') := by
  have hne : ∀ B, B < m → some B ≠ v.ownBlock := fun B hB e => row_off hrow hB e.symm
  have up : ∀ {B : Nat} {t : TypeId} {u : Value}, B < m → Boxed W B t u → Boxed w2 B t u := fun hBm h =>
    ((boxed_below h hcl h.lt).alloc _).kept hgrow (hne _ hBm)
  have hk2 : KeepsOthers W w2 := by
    refine ((keeps_below hcl).trans (KeepsOthers.alloc W1 _)).trans (KeepsOthers.of_grownBy hgrow fun j o ej hj => ?_)
    rcases hrow.2 with ⟨rfl, _⟩ | ⟨g, cap, cur, rfl, _, hgb, _⟩
    · simp [Value.ownBlock] at ej
    · obtain rfl : g = j := by simpa [Value.ownBlock] using ej
      have hg1 : (W1.alloc (.cells #[.string x.1] 9)).heap[g]? = W.heap[g]? := by
        have hlt := (Array.getElem?_eq_some_iff.1 hgb).1
        rw [Below.heap_alloc _ _ _ (by have := hcl.size; omega)]
        exact hcl.block g hlt
      rw [hg1, hgb] at hj
      cases hj
      rfl
  have hks : KeepsOthers W (w2.setCell ⟨V, 0, none⟩ v') := hk2.trans (KeepsOthers.setCell _ _ _)
  have hTs : (w2.setCell ⟨V, 0, none⟩ v').heap[V + 1]? = W.heap[V + 1]? := by
    rw [Below.heap_setCell w2 ⟨V, 0, none⟩ v' (V + 1) (by simp)]
    rw [hgrow.block (V + 1) (by have := hcl.size; simp; omega) (hne _ hVm), Below.heap_alloc _ _ _ (by have := hcl.size; omega)]
    exact hcl.block (V + 1) (by omega)
  have hBw2 : Below w.heap.size w w2 := by
    refine ((hB.trans (hcl.mono hB.size)).alloc (by have := hB.size; have := hcl.size; omega) _).grown hgrow (by have := hB.size; have := hcl.size; simp; omega) (fun k e => ?_)
    have := (hrow.lt k e).1
    omega
  refine ⟨up (by omega) hv, hks, ⟨keeps_walks hks, hTs⟩, ⟨v', (up (by omega) hv).set v', ?_⟩, boxed_other _ (up (by omega) hb1) (by omega), boxed_other _ (up (by omega) hb2) (by omega), by simp; omega, ?_, hBw2.setCell (p := ⟨V, 0, none⟩) (by simp; omega) _⟩
  · rw [vals_snoc, List.map_append, List.length_append, vals_len]
    exact hown.kept (grownBy_setCell' w2 V v') (.inr (row_off hown (by omega)))
  · exact Nat.le_trans hmW hks.size

set_option maxRecDepth 100000 in
set_option maxHeartbeats 2000000 in
theorem LexCutI_clean (s : ByteArray) (w : World) (h1 : ¬ 4000 < s.size) (h : cleanB s = true) :
    Calls Try.prog 12 #[.string s] w (Cuts s w) := by
  obtain ⟨i0, hi, hz0, hz1, hz2⟩ := info_parts sinfo9
  have B1 := Boxed.new w 23 (.slice none 0 0)
  have B2 := Boxed.new (w.alloc (.cells #[.slice none 0 0] 23)) 4 (.bool false)
  rw [World.size_alloc] at B2
  have HB1 := hide (B1.alloc (.cells #[.bool false] 4))
  have HB2 := hide B2
  clear B1 B2
  have hf38 : Fence.wide.fn 38 := trivial
  have hf39 : Fence.wide.fn 39 := trivial
  have hf40 : Fence.wide.fn 40 := trivial
  have hf55 : Fence.wide.fn 55 := trivial
  have hn5 : 1 ≤ 5 := by omega
  refine (callsIn_wide (n := 5)).1 ?_
  refine callsIn_of_wp_marks Try.func12 rfl trivial ?_ rfl
  simp only [Try.ntmps12, List.size_toArray, List.length_cons, List.length_nil, Nat.reduceAdd, Nat.reduceSub, Array.replicate_succ, Array.replicate_zero, List.push_toArray, List.append_toArray, List.nil_append, List.cons_append]
  have hd0 : decide ((4000 : Int) < (s.size : Int)) = false := by rw [decide_eq_false_iff_not]; omega
  gi_wp2_with fail
  refine (callsIn_wide.2 (lexClean_any s _)).mono ?_
  rintro e w1 ⟨rfl, hb⟩
  rw [h]
  have HBX1 := hide (boxed_below (unhide HB1) hb (by simp; omega))
  have HBX2 := hide (boxed_below (unhide HB2) hb (by simp))
  have HBW := hide (((((Below.refl w.heap.size w).alloc (Nat.le_refl _) (.cells #[.slice none 0 0] 23)).alloc (by simp) (.cells #[.bool false] 4))).trans (hb.mono (by simp; omega)))
  have hsz : w.heap.size + 2 ≤ w1.heap.size := by have := hb.size; simp at this; omega
  clear hb HB1 HB2
  gi_wp2_with fail
  refine (lexWords_in _ s _).mono ?_
  rintro e w' ⟨rfl, rfl⟩
  gi_wp2_with fail
  have hT : w1.heap.size + 1 < ((w1.alloc (.cells #[.slice none 0 0] 23)).alloc (.cells #[.string s] 9)).heap.size := by simp
  have hbT : ((w1.alloc (.cells #[.slice none 0 0] 23)).alloc (.cells #[.string s] 9)).heap[w1.heap.size + 1]? = some (.cells #[.string s] 9 (0, 0)) := by
    have := Boxed.new (w1.alloc (.cells #[.slice none 0 0] 23)) 9 (.string s)
    rw [World.size_alloc] at this
    exact this
  have hAcc : Acc w w1.heap.size (w1.heap.size + 2) [] ((w1.alloc (.cells #[.slice none 0 0] 23)).alloc (.cells #[.string s] 9)) := by
    refine ⟨⟨.slice none 0 0, (Boxed.new w1 23 _).alloc _, World.ownsRow_nil _ _ _ _⟩, ((unhide HBX1).alloc _).alloc _, ((unhide HBX2).alloc _).alloc _, by simp, by simp, ?_⟩
    exact ((unhide HBW).alloc (unhide HBW).size _).alloc (by have := (unhide HBW).size; simp; omega) _
  refine wpIn_rangeFunc_ownF rfl hn5 (gf := 55) (lb := #[.pointer (some ⟨w1.heap.size + 1, 0, none⟩)]) rfl hf55 (enters_of Try.func55 (by kernel_rfl) rfl)
    (lexWords_stops (5 - 1) (w1.heap.size + 1) (by omega) s (by omega) h _ hT hbT) keepT_t (keepT_b hT) (Below.refl _ _) (fun _ => rfl)
    (Acc w w1.heap.size (w1.heap.size + 2)) (Left w)
    (acc_own w _ _ _ (by simp; omega)) (left_own w _ (by simp; omega)) hAcc
    (fun x : Wd => { tmps := #[.string s, undef, .pointer (some ⟨w.heap.size, 0, none⟩), .pointer (some ⟨w.heap.size + 1, 0, none⟩), .pointer (some ⟨w1.heap.size, 0, none⟩), .string x.1, .string s, .int .i64 s.size, .bool false, .bool false, .string s, .bool true, .bool false, .bool false, .string s, .func (.func 55) #[] #[.pointer (some ⟨w1.heap.size + 1, 0, none⟩)], .string x.1, undef, undef, undef, undef, undef, undef, undef, undef, undef], defers := [] }) ?assign ?body ?done ?stop
  case assign =>
    intro l x W K hK
    gi_wp2
    exact hK
  case body =>
    rintro l pre x W ⟨⟨v, hv, hrow⟩, hb1, hb2, hlen, hmW, hB⟩ hlt
    rw [vals_len] at hrow
    obtain ⟨ao, cap, rfl⟩ := row_slice_len hrow
    have hc := hv.cell
    by_cases h15 : pre.length = 1500
    · have hq : ((pre.length : Int) == 1500) = true := by rw [beq_iff_eq]; omega
      have c2 := hb1.cell
      have c3 := hb2.cell
      have f2 := hb1.frozen
      have f3 := hb2.frozen
      have HR : Hid (Left w .ret (pre ++ [x]) ((W.setCell ⟨w.heap.size, 0, none⟩ (.slice none 0 0)).setCell ⟨w.heap.size + 1, 0, none⟩ (.bool false))) := hide ⟨rfl, boxed_other _ (hb1.set _) (by omega), (boxed_other _ hb2 (by omega)).set _, by simp; omega, (hB.setCell (p := ⟨w.heap.size, 0, none⟩) (Nat.le_refl _) _).setCell (p := ⟨w.heap.size + 1, 0, none⟩) (by simp) _⟩
      clear hv hrow hb1 hb2 hB h15
      gi_wp2
      exact ⟨(KeepsOthers.setCell _ _ _).trans (KeepsOthers.setCell _ _ _), unhide HR⟩
    · have hq : ((pre.length : Int) == 1500) = false := by rw [beq_eq_false_iff_ne]; omega
      have hmx : Try.prog.follows .mixedOrders = true := by kernel_rfl
      have hlim : x.1.size ≤ 281474976710656 := by have := x.2; omega
      have hVW := hv.lt
      gi_wp2
      refine wpIn_region_any (by kernel_rfl) ?_
      change wpAnyIn _ _ _ _ _ _ _ _ _ (World.drew _)
      refine wpAnyIn_ready (rs := [0, 1]) (by kernel_rfl) (by simp) ?_
      refine AllReadyIn.cons rfl (fun K hK => ?_) (AllReadyIn.cons rfl (fun K hK => ?_) AllReadyIn.nil)
      · go_simp
        refine hK _ _ ?_
        clear hK K
        refine wpAnyIn_ready (rs := [1]) (by kernel_rfl) (by simp) ?_
        refine AllReadyIn.cons rfl (fun K hK => ?_) AllReadyIn.nil
        go_simp
        refine hK _ _ ?_
        clear hK K
        refine wpAnyIn_ready (rs := [2]) (by kernel_rfl) (by simp) ?_
        refine AllReadyIn.cons rfl (fun K hK => ?_) AllReadyIn.nil
        go_simp
        refine (CallsIn.inRound l (callsIn_wide.2 (Clone_any x.1 W.drew hlim))).mono ?_
        rintro e W1 ⟨rfl, hcl0⟩
        have hcl : Below W.heap.size W W1 := (Below.refl _ _).drew.trans hcl0
        have hc1 : W1.cell? ⟨w1.heap.size, 0, none⟩ = some (.slice ao pre.length cap) := (boxed_below hv hcl hv.lt).cell
        have hV1 : w1.heap.size < W1.heap.size := (boxed_below hv hcl hv.lt).lt
        clear hcl0
        refine hK _ _ ?_
        clear hK K
        refine wpAnyIn_ready (rs := [3]) (by kernel_rfl) (by simp) ?_
        refine AllReadyIn.cons rfl (fun K hK => ?_) AllReadyIn.nil
        go_simp
        refine hK _ _ ?_
        clear hK K
        refine wpAnyIn_ready (rs := [4]) (by kernel_rfl) (by simp) ?_
        refine AllReadyIn.cons rfl (fun K hK => ?_) AllReadyIn.nil
        refine stepIn_append_own rfl (.tmp 20) (.tmp 23) 23 rfl (w1.heap.size + 2) 9 i0 (.string ⟨#[]⟩) 1 16 Try.underlying23 hi hz0 hz1 hz2 rfl (by decide) (.slice ao pre.length cap) pre.length ((vals pre).map Value.string) rfl (row_up hrow hcl hmW _) ⟨W1.heap.size, 0, none⟩ 1 1 [.string x.1] rfl rfl (cell_one_new _ _ _) (by simp [Value.oneCell']) (by unfold maxLen; omega) (by omega) (by have := hcl.size; simp; omega) ?_
        intro v' w2 hown hgrow
        obtain ⟨g', cap', rfl⟩ := ownsRow_succ hown
        obtain ⟨hv2, r1, r2, r3⟩ := round_done (x := x) hv hrow hb1 hb2 (by omega) hmW hB (by omega) (by omega) hcl hgrow hown
        have hc2 := hv2.cell
        have hf2 := hv2.frozen
        refine hK _ _ ?_
        clear hK K
        refine wpAnyIn_ready (rs := [5]) (by kernel_rfl) (by simp) ?_
        refine AllReadyIn.cons rfl (fun K hK => ?_) AllReadyIn.nil
        go_simp
        refine hK _ _ ?_
        clear hK K
        refine wpAnyIn_done (by kernel_rfl) ?_ _
        exact ⟨r1, r2, r3⟩
      · go_simp
        refine hK _ _ ?_
        clear hK K
        refine wpAnyIn_ready (rs := [0, 2]) (by kernel_rfl) (by simp) ?_
        refine AllReadyIn.cons rfl (fun K hK => ?_) (AllReadyIn.cons rfl (fun K hK => ?_) AllReadyIn.nil)
        · go_simp
          refine hK _ _ ?_
          clear hK K
          refine wpAnyIn_ready (rs := [2]) (by kernel_rfl) (by simp) ?_
          refine AllReadyIn.cons rfl (fun K hK => ?_) AllReadyIn.nil
          go_simp
          refine (CallsIn.inRound l (callsIn_wide.2 (Clone_any x.1 W.drew hlim))).mono ?_
          rintro e W1 ⟨rfl, hcl0⟩
          have hcl : Below W.heap.size W W1 := (Below.refl _ _).drew.trans hcl0
          have hc1 : W1.cell? ⟨w1.heap.size, 0, none⟩ = some (.slice ao pre.length cap) := (boxed_below hv hcl hv.lt).cell
          have hV1 : w1.heap.size < W1.heap.size := (boxed_below hv hcl hv.lt).lt
          clear hcl0
          refine hK _ _ ?_
          clear hK K
          refine wpAnyIn_ready (rs := [3]) (by kernel_rfl) (by simp) ?_
          refine AllReadyIn.cons rfl (fun K hK => ?_) AllReadyIn.nil
          go_simp
          refine hK _ _ ?_
          clear hK K
          refine wpAnyIn_ready (rs := [4]) (by kernel_rfl) (by simp) ?_
          refine AllReadyIn.cons rfl (fun K hK => ?_) AllReadyIn.nil
          refine stepIn_append_own rfl (.tmp 20) (.tmp 23) 23 rfl (w1.heap.size + 2) 9 i0 (.string ⟨#[]⟩) 1 16 Try.underlying23 hi hz0 hz1 hz2 rfl (by decide) (.slice ao pre.length cap) pre.length ((vals pre).map Value.string) rfl (row_up hrow hcl hmW _) ⟨W1.heap.size, 0, none⟩ 1 1 [.string x.1] rfl rfl (cell_one_new _ _ _) (by simp [Value.oneCell']) (by unfold maxLen; omega) (by omega) (by have := hcl.size; simp; omega) ?_
          intro v' w2 hown hgrow
          obtain ⟨g', cap', rfl⟩ := ownsRow_succ hown
          obtain ⟨hv2, r1, r2, r3⟩ := round_done (x := x) hv hrow hb1 hb2 (by omega) hmW hB (by omega) (by omega) hcl hgrow hown
          have hc2 := hv2.cell
          have hf2 := hv2.frozen
          refine hK _ _ ?_
          clear hK K
          refine wpAnyIn_ready (rs := [5]) (by kernel_rfl) (by simp) ?_
          refine AllReadyIn.cons rfl (fun K hK => ?_) AllReadyIn.nil
          go_simp
          refine hK _ _ ?_
          clear hK K
          refine wpAnyIn_done (by kernel_rfl) ?_ _
          exact ⟨r1, r2, r3⟩
        · go_simp
          refine (CallsIn.inRound l (callsIn_wide.2 (Clone_any x.1 W.drew hlim))).mono ?_
          rintro e W1 ⟨rfl, hcl0⟩
          have hcl : Below W.heap.size W W1 := (Below.refl _ _).drew.trans hcl0
          have hc1 : W1.cell? ⟨w1.heap.size, 0, none⟩ = some (.slice ao pre.length cap) := (boxed_below hv hcl hv.lt).cell
          have hV1 : w1.heap.size < W1.heap.size := (boxed_below hv hcl hv.lt).lt
          clear hcl0
          refine hK _ _ ?_
          clear hK K
          refine wpAnyIn_ready (rs := [0, 3]) (by kernel_rfl) (by simp) ?_
          refine AllReadyIn.cons rfl (fun K hK => ?_) (AllReadyIn.cons rfl (fun K hK => ?_) AllReadyIn.nil)
          · go_simp
            refine hK _ _ ?_
            clear hK K
            refine wpAnyIn_ready (rs := [3]) (by kernel_rfl) (by simp) ?_
            refine AllReadyIn.cons rfl (fun K hK => ?_) AllReadyIn.nil
            go_simp
            refine hK _ _ ?_
            clear hK K
            refine wpAnyIn_ready (rs := [4]) (by kernel_rfl) (by simp) ?_
            refine AllReadyIn.cons rfl (fun K hK => ?_) AllReadyIn.nil
            refine stepIn_append_own rfl (.tmp 20) (.tmp 23) 23 rfl (w1.heap.size + 2) 9 i0 (.string ⟨#[]⟩) 1 16 Try.underlying23 hi hz0 hz1 hz2 rfl (by decide) (.slice ao pre.length cap) pre.length ((vals pre).map Value.string) rfl (row_up hrow hcl hmW _) ⟨W1.heap.size, 0, none⟩ 1 1 [.string x.1] rfl rfl (cell_one_new _ _ _) (by simp [Value.oneCell']) (by unfold maxLen; omega) (by omega) (by have := hcl.size; simp; omega) ?_
            intro v' w2 hown hgrow
            obtain ⟨g', cap', rfl⟩ := ownsRow_succ hown
            obtain ⟨hv2, r1, r2, r3⟩ := round_done (x := x) hv hrow hb1 hb2 (by omega) hmW hB (by omega) (by omega) hcl hgrow hown
            have hc2 := hv2.cell
            have hf2 := hv2.frozen
            refine hK _ _ ?_
            clear hK K
            refine wpAnyIn_ready (rs := [5]) (by kernel_rfl) (by simp) ?_
            refine AllReadyIn.cons rfl (fun K hK => ?_) AllReadyIn.nil
            go_simp
            refine hK _ _ ?_
            clear hK K
            refine wpAnyIn_done (by kernel_rfl) ?_ _
            exact ⟨r1, r2, r3⟩
          · go_simp
            refine hK _ _ ?_
            clear hK K
            refine wpAnyIn_ready (rs := [0]) (by kernel_rfl) (by simp) ?_
            refine AllReadyIn.cons rfl (fun K hK => ?_) AllReadyIn.nil
            go_simp
            refine hK _ _ ?_
            clear hK K
            refine wpAnyIn_ready (rs := [4]) (by kernel_rfl) (by simp) ?_
            refine AllReadyIn.cons rfl (fun K hK => ?_) AllReadyIn.nil
            refine stepIn_append_own rfl (.tmp 20) (.tmp 23) 23 rfl (w1.heap.size + 2) 9 i0 (.string ⟨#[]⟩) 1 16 Try.underlying23 hi hz0 hz1 hz2 rfl (by decide) (.slice ao pre.length cap) pre.length ((vals pre).map Value.string) rfl (row_up hrow hcl hmW _) ⟨W1.heap.size, 0, none⟩ 1 1 [.string x.1] rfl rfl (cell_one_new _ _ _) (by simp [Value.oneCell']) (by unfold maxLen; omega) (by omega) (by have := hcl.size; simp; omega) ?_
            intro v' w2 hown hgrow
            obtain ⟨g', cap', rfl⟩ := ownsRow_succ hown
            obtain ⟨hv2, r1, r2, r3⟩ := round_done (x := x) hv hrow hb1 hb2 (by omega) hmW hB (by omega) (by omega) hcl hgrow hown
            have hc2 := hv2.cell
            have hf2 := hv2.frozen
            refine hK _ _ ?_
            clear hK K
            refine wpAnyIn_ready (rs := [5]) (by kernel_rfl) (by simp) ?_
            refine AllReadyIn.cons rfl (fun K hK => ?_) AllReadyIn.nil
            go_simp
            refine hK _ _ ?_
            clear hK K
            refine wpAnyIn_done (by kernel_rfl) ?_ _
            exact ⟨r1, r2, r3⟩
  case done =>
    rintro D ys W hD hys hA hK
    obtain ⟨⟨v, hv, hrow⟩, hb1, hb2, hlen, hmW, hB⟩ := hA
    obtain ⟨ao, n, cap, rfl⟩ := row_slice hrow
    have HCB := hide (cut_yes (by omega) h (by rw [← hys, vals_len]; exact hlen))
    rw [hys] at hrow
    have hc := hv.cell
    have c2 := hb1.cell
    have c3 := hb2.cell
    have f2 := hb1.frozen
    have f3 := hb2.frozen
    have b1 := boxed_other (.bool true) (hb1.set (.slice ao n cap)) (show w.heap.size ≠ w.heap.size + 1 by omega)
    have b2 := (boxed_other (.slice ao n cap) hb2 (show w.heap.size + 1 ≠ w.heap.size by omega)).set (.bool true)
    have hK' := (((KeepsOthers.setCell W ⟨w.heap.size, 0, none⟩ (.slice ao n cap)).trans (KeepsOthers.setCell _ ⟨w.heap.size + 1, 0, none⟩ (.bool true)))).same D _ hK rfl
    have hrow2 := (hrow.kept (grownBy_setCell' W w.heap.size (.slice ao n cap)) (.inr (row_off hrow (by omega)))).kept (grownBy_setCell' _ (w.heap.size + 1) (.bool true)) (.inr (row_off hrow (by omega)))
    have hB2 := ((hB.setCell (p := ⟨w.heap.size, 0, none⟩) (Nat.le_refl _) (.slice ao n cap)).setCell (p := ⟨w.heap.size + 1, 0, none⟩) (by simp) (.bool true))
    have HB1 := hide b1
    have HB2 := hide b2
    have HK := hide hK'
    have HR := hide hrow2
    have HBL := hide hB2
    clear b1 b2 hK' hrow2 hB2 hrow hv hb1 hb2 hB hK
    gi_wp2
    refine ⟨by simp, .inl ⟨_, _, rfl, run_takeDeferred (unhide HK), ?_⟩⟩
    have hg := grownBy_putObj' ((W.setCell ⟨w.heap.size, 0, none⟩ (.slice ao n cap)).setCell ⟨w.heap.size + 1, 0, none⟩ (.bool true)) D (.deferred none)
    have hr : ∀ r, some D = some r → ∃ o : Obj, ((W.setCell ⟨w.heap.size, 0, none⟩ (.slice ao n cap)).setCell ⟨w.heap.size + 1, 0, none⟩ (.bool true)).heap[r]? = some o ∧ o.isCells = false := fun r e => by cases e; exact ⟨_, unhide HK, rfl⟩
    have d2 := (boxed_turn (unhide HB1) hg hr).cell
    have d3 := (boxed_turn (unhide HB2) hg hr).cell
    refine ⟨.tuple #[.slice ao n cap, .bool true], by simp [results, Try.results12, go_sem, d2, d3], ?_⟩
    refine ⟨_, by rw [unhide HCB], ?_, ?_⟩
    · have e : cutL s = wordsOf s := by unfold cutL; rw [unhide HCB]; rfl
      rw [e]
      exact row_base (ownsRow_putObj (unhide HR) _ (unhide HK) rfl) (by omega)
    · exact (unhide HBL).trans (belowK_b (w := w) (Nat.le_refl _) _ D _ _ (by simp at hD; omega) (unhide HK) rfl rfl)
  case stop =>
    rintro D c pre W hD hpre ⟨rfl, hb1, hb2, hlen, hB⟩ hK
    have hmany : 1500 < (wordsOf s).length := by have := hpre.length_le; rw [vals_len] at this; omega
    have HCB := hide (cut_many hmany)
    gi_wp2
    refine ⟨by simp, .inl ⟨_, _, rfl, run_takeDeferred hK, ?_⟩⟩
    have hg := grownBy_putObj' W D (.deferred none)
    have hr : ∀ r, some D = some r → ∃ o : Obj, W.heap[r]? = some o ∧ o.isCells = false := fun r e => by cases e; exact ⟨_, hK, rfl⟩
    have d2 := (boxed_turn hb1 hg hr).cell
    have d3 := (boxed_turn hb2 hg hr).cell
    refine ⟨.tuple #[.slice none 0 0, .bool false], by simp [results, Try.results12, go_sem, d2, d3], ?_⟩
    exact cuts_no (unhide HCB) (hB.trans (belowK_b (w := w) (Nat.le_refl _) _ D _ _ (by simp at hD; omega) hK rfl rfl))

/-- The words of a text, or nothing, at every text. -/
theorem LexCutI_any (s : ByteArray) (w : World) (hs : s.size ≤ maxLen) : Calls Try.prog 12 #[.string s] w (Cuts s w) := by
  by_cases h1 : 4000 < s.size
  · exact LexCutI_long s w hs h1
  · cases h : cleanB s with
    | false => exact LexCutI_unclean s w h1 h
    | true => exact LexCutI_clean s w h1 h
end Go.Proofs.Ytkegbdlbaanapaa
