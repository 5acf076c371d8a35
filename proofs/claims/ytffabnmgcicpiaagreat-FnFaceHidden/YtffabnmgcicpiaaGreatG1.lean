/- Trees of expressions in memory, and the walk of spec.TreeNodes. Conditions: the tree can be read. The walks of szTreeExpr and szTreeExprS: what a tree weighs. Conditions: the tree can be read. The walks of eqTreeExpr and eqTreeExprS at trees that are the same. Conditions: the trees can be read, and weigh at most 2^20. The walks of toTreeExpr and toTreeExprS: a tree is copied. Conditions: the tree can be read, and weighs at most 2^20. The walk of toTreeExpr: a tree is copied. Conditions: the tree can be read, and weighs at most 2^20. Parameters of functions. No conditions. Rows of parameters: the walks of szTreeArgS, eqTreeArgS, toTreeArgS. Conditions: the rows can be read. The walks of szTreeArg, eqTreeArg, toTreeArg. No conditions. Functions of a module in memory. No conditions. Rows of functions: the walks of szTreeFunS, eqTreeFunS, toTreeFunS. Conditions: the rows can be read. The walks of szTreeFun and eqTreeFun. No conditions. The walk of toTreeFun. No conditions. Rows of words in memory, and the walks of szStringS, toStringS, eqStringS. Conditions: the rows can be read. Modules in memory; the walks of szTreeMod, eqTreeMod, toTreeMod. Conditions: the module can be read. The walk of toTreeMod: a module is copied. Conditions: the module can be read, and weighs at most 2^20. -/
import Derived.Test.YtffabnmgcicpiaaGreatPlain
import Derived.Below
import Derived.Deep.QuietTactic
import Derived.BigQuiet
import Derived.Deep.RegionWith
namespace Go.Proofs.YtffabnmgcicpiaaGreat
open Go.RowKit Go.PlainAid

/-- An expression. -/
inductive TE where
  | node (kind num : Int) (name mod : ByteArray) (kids : List TE)
/-- A row of kids that can be read, all of it in the blocks from lo on and below n, each kid as R says. -/
def IsKids (R : Value → TE → Prop) (w : World) (lo n : Nat) (a : Option Addr) (kids : List TE) : Prop :=
  kids = [] ∨ ∃ b off : Nat, a = some ⟨b, off, none⟩ ∧ lo ≤ b ∧ b < n ∧ ∀ j (hj : j < kids.length), ∃ c0 c1 c2 c3 c4 : Value,
    w.cell? ⟨b, off + j * 5, none⟩ = some c0 ∧ w.cell? ⟨b, off + j * 5 + 1, none⟩ = some c1 ∧ w.cell? ⟨b, off + j * 5 + 2, none⟩ = some c2 ∧ w.cell? ⟨b, off + j * 5 + 3, none⟩ = some c3 ∧ w.cell? ⟨b, off + j * 5 + 4, none⟩ = some c4 ∧ R (.agg #[c0, c1, c2, c3, c4]) kids[j]
/-- A value that is an expression, at most h deep, all of it in the blocks from lo on and below n. -/
def IsE (w : World) (lo n : Nat) : Nat → Value → TE → Prop
  | 0, _, _ => False
  | h + 1, v, .node k m nm md kids => ∃ (a : Option Addr) (cap : Nat), v = .agg #[.int .i64 k, .int .i64 m, .string nm, .string md, .slice a kids.length cap] ∧ (nm.size ≤ maxLen ∧ md.size ≤ maxLen ∧ kids.length ≤ maxLen) ∧ IsKids (IsE w lo n h) w lo n a kids

mutual
def TE.nodes : TE → Nat
  | .node _ _ _ _ kids => 1 + nodesL kids
def nodesL : List TE → Nat
  | [] => 0
  | e :: t => e.nodes + nodesL t
end
mutual
def TE.deep : TE → Nat
  | .node _ _ _ _ kids => deepL kids + 1
def deepL : List TE → Nat
  | [] => 0
  | e :: t => Nat.max e.deep (deepL t)
end

/-- The blocks from lo on and below n are as they were. -/
def Same (lo n : Nat) (w w' : World) : Prop := ∀ b, lo ≤ b → b < n → w'.heap[b]? = w.heap[b]?
theorem Below.same {n lo : Nat} {w w' : World} (h : Below n w w') : Same lo n w w' := fun b _ hb => h.block b hb
theorem Same.trans {lo n : Nat} {w w' w'' : World} (h : Same lo n w w') (k : Same lo n w' w'') : Same lo n w w'' := fun b h1 h2 => (k b h1 h2).trans (h b h1 h2)
theorem IsKids.mono {R R' : Value → TE → Prop} {w w' : World} {lo n lo' n' : Nat} {a : Option Addr} {kids : List TE} (h : IsKids R w lo n a kids) (hR : ∀ v e, R v e → R' v e) (hs : Same lo n w w') (hl : lo' ≤ lo) (hn : n ≤ n') : IsKids R' w' lo' n' a kids := by
  rcases h with h | ⟨b, off, h1, h0, h2, h3⟩
  · exact .inl h
  · refine .inr ⟨b, off, h1, by omega, by omega, fun j hj => ?_⟩
    obtain ⟨c0, c1, c2, c3, c4, d0, d1, d2, d3, d4, hr⟩ := h3 j hj
    have hc : ∀ o, w'.cell? ⟨b, o, none⟩ = w.cell? ⟨b, o, none⟩ := fun o => World.cell?_of_block (w := w) (hs b h0 h2)
    exact ⟨c0, c1, c2, c3, c4, (hc _).trans d0, (hc _).trans d1, (hc _).trans d2, (hc _).trans d3, (hc _).trans d4, hR _ _ hr⟩
theorem IsE.same {w w' : World} {lo n lo' n' : Nat} (hs : Same lo n w w') (hl : lo' ≤ lo) (hn : n ≤ n') : ∀ (h : Nat) (v : Value) (e : TE), IsE w lo n h v e → IsE w' lo' n' h v e
  | 0, _, _, hE => hE.elim
  | h + 1, v, .node k q nm md kids, hE => by
    obtain ⟨a, cap, rfl, hz, hk⟩ := hE
    exact ⟨a, cap, rfl, hz, hk.mono (IsE.same hs hl hn h) hs hl hn⟩
theorem IsE.kept {w w' : World} {lo n m : Nat} (hb : Below n w w') (hnm : n ≤ m) (h : Nat) (v : Value) (e : TE) (hE : IsE w lo n h v e) : IsE w' lo m h v e := IsE.same (Below.same hb) (Nat.le_refl _) hnm h v e hE
theorem IsKids.kept {h : Nat} {w w' : World} {lo n m : Nat} {a : Option Addr} {kids : List TE} (hk : IsKids (IsE w lo n h) w lo n a kids) (hb : Below n w w') (hnm : n ≤ m) : IsKids (IsE w' lo m h) w' lo m a kids :=
  hk.mono (IsE.kept hb hnm h) (Below.same hb) (Nat.le_refl _) hnm
theorem nodesL_append : ∀ (l r : List TE), nodesL (l ++ r) = nodesL l + nodesL r
  | [], r => by simp [nodesL]
  | e :: t, r => by rw [List.cons_append, nodesL, nodesL, nodesL_append t r]; omega
theorem deepL_append : ∀ (l r : List TE), deepL (l ++ r) = Nat.max (deepL l) (deepL r)
  | [], r => by simp [deepL]
  | e :: t, r => by rw [List.cons_append, deepL, deepL, deepL_append t r]; exact (Nat.max_assoc _ _ _).symm
theorem nodes_step (kids : List TE) (k : Nat) (h : k < kids.length) : nodesL (kids.take (k + 1)) = nodesL (kids.take k) + kids[k].nodes := by
  rw [List.take_succ_eq_append_getElem h, nodesL_append]; simp [nodesL]
theorem deep_step (kids : List TE) (k : Nat) (h : k < kids.length) : deepL (kids.take (k + 1)) = Nat.max (deepL (kids.take k)) kids[k].deep := by
  rw [List.take_succ_eq_append_getElem h, deepL_append]; simp [deepL]
theorem nodes_le (kids : List TE) (k : Nat) : nodesL (kids.take k) ≤ nodesL kids := by
  have := nodesL_append (kids.take k) (kids.drop k)
  rw [List.take_append_drop] at this
  omega
mutual
theorem deep_le : ∀ e : TE, e.deep ≤ e.nodes
  | .node _ _ _ _ kids => by
    have := deepL_le kids
    rw [TE.deep, TE.nodes]; omega
theorem deepL_le : ∀ l : List TE, deepL l ≤ nodesL l
  | [] => Nat.le_refl _
  | e :: t => by
    have h1 := deep_le e
    have h2 := deepL_le t
    rw [deepL, nodesL]
    exact Nat.max_le.2 ⟨by omega, by omega⟩
end
mutual
theorem nodes_pos : ∀ e : TE, 1 ≤ e.nodes
  | .node _ _ _ _ kids => by rw [TE.nodes]; omega
theorem len_le : ∀ l : List TE, l.length ≤ nodesL l
  | [] => Nat.le_refl _
  | e :: t => by
    have h1 := nodes_pos e
    have h2 := len_le t
    rw [List.length_cons, nodesL]; omega
end

set_option maxHeartbeats 1000000 in
theorem TreeNodesS_any (lo : Nat) : ∀ (h : Nat) (v : Value) (e : TE) (w : World), IsE w lo w.heap.size h v e → e.nodes ≤ 1048577 →
    Calls Tryz.prog 33 #[v] w fun r w' => r = .returned (.tuple #[.int .i64 e.nodes, .int .i64 e.deep]) ∧ Below w.heap.size w w' := by
  intro h
  induction h with
  | zero => intro v e w hE; exact hE.elim
  | succ h ih =>
    intro v e w hE hn
    obtain ⟨kd, m, nm, md, kids⟩ := e
    obtain ⟨a, cap, rfl, _, hk⟩ := hE
    rw [TE.nodes] at hn
    have hlen := len_le kids
    have hL : kids.length ≤ 1048576 := by omega
    have HK := hide hk
    have HN := hide hn
    have IH := hide ih
    clear ih
    clear hk hn hlen
    go_enter Tryz.func33, Tryz.ntmps33
    go_wp2
    go_loopw [4, 5, 6] (fun n d i wr => ∃ k N D : Nat, k ≤ kids.length ∧ i = .int .i64 k ∧ n = .int .i64 N ∧ d = .int .i64 D ∧ N ≤ 1048577 ∧ D ≤ N ∧ Hid (1 + nodesL (kids.take k) = N) ∧ Hid (deepL (kids.take k) = D) ∧ wr.cell? ⟨w.heap.size, 4, none⟩ = some (.slice a kids.length cap) ∧ Hid (w.heap.size < wr.heap.size) ∧ Hid (Below w.heap.size w wr)) (fun _ _ i _ => kids.length - (intOf i).toNat)
    case atStart => exact ⟨0, 1, 0, Nat.zero_le _, rfl, rfl, rfl, by omega, by omega, hide rfl, hide rfl, by simp, hide (by simp), hide ((Below.refl _ _).alloc (Nat.le_refl _) _)⟩
    case round =>
      obtain ⟨k, N, D, hk, rfl, rfl, rfl, hN, hD, HS, HDP, hc, HZ, HB⟩ := hrel
      by_cases hp : k < kids.length
      · rcases (unhide HK).kept (unhide HB) (unhide HB).size with hq | ⟨b, off, rfl, hbl, hbn, hcs⟩
        · rw [hq] at hp; simp at hp
        obtain ⟨c0, c1, c2, c3, c4, d0, d1, d2, d3, d4, hr⟩ := hcs k hp
        have hs1 := nodes_step kids k hp
        have hs2 := deep_step kids k hp
        have hs3 := nodes_le kids (k + 1)
        have hs4 := deep_le kids[k]
        generalize kids[k] = e at hr hs1 hs2 hs4
        have HR := hide hr
        have HX1 := hide hs1
        have HX2 := hide hs2
        have hen : e.nodes ≤ 1048577 ∧ N + e.nodes ≤ 1048577 := by
          have h1 := unhide HN
          have h2 := unhide HS
          omega
        clear hcs hr hs1 hs2 hs3
        go_wp2_with fail
        refine (unhide IH _ e wr (unhide HR) hen.1).mono ?_
        rintro r w2 ⟨rfl, hb2⟩
        have hc2 : w2.cell? ⟨w.heap.size, 4, none⟩ = some (.slice (some ⟨b, off, none⟩) kids.length cap) := (hb2.cell (p := ⟨w.heap.size, 4, none⟩) (unhide HZ)).trans hc
        have HB2 := hide ((unhide HB).trans (hb2.mono (unhide HB).size))
        have HZ2 : Hid (w.heap.size < w2.heap.size) := hide (by have := unhide HZ; have := hb2.size; omega)
        obtain ⟨E, hE⟩ : ∃ E, e.nodes = E := ⟨_, rfl⟩
        obtain ⟨F, hF⟩ : ∃ F, e.deep = F := ⟨_, rfl⟩
        rw [hE, hF] at hs4 ⊢
        rw [hE] at hen
        have HE := hide hE
        have HF := hide hF
        clear hb2 hc HB HZ d0 d1 d2 d3 d4 HR hE hF
        by_cases hgt : D < F
        · go_wp2
          go_roundw
          case rel => exact ⟨k + 1, N + E, F, by omega, by go_num, by go_num, rfl, by omega, by omega, hide (by rw [unhide HX1, unhide HE]; have := unhide HS; omega), hide (by rw [unhide HX2, unhide HF, unhide HDP]; exact Nat.max_eq_right (by omega)), hc2, HZ2, HB2⟩
          case measure => simp [intOf] <;> omega
        · go_wp2
          go_roundw
          case rel => exact ⟨k + 1, N + E, D, by omega, by go_num, by go_num, rfl, by omega, by omega, hide (by rw [unhide HX1, unhide HE]; have := unhide HS; omega), hide (by rw [unhide HX2, unhide HF, unhide HDP]; exact Nat.max_eq_left (by omega)), hc2, HZ2, HB2⟩
          case measure => simp [intOf] <;> omega
      · have HE : Hid (kids.take k = kids) := hide (List.take_of_length_le (by omega))
        rw [unhide HE] at HS HDP
        go_wp2
        go_ret2
        refine ⟨?_, unhide HB⟩
        rw [TE.nodes, TE.deep, unhide HS, unhide HDP]
        rfl
end Go.Proofs.YtffabnmgcicpiaaGreat

namespace Go.Proofs.YtffabnmgcicpiaaGreat
open Go.RowKit Go.PlainAid

mutual
def TE.wt : TE → Nat
  | .node _ _ nm md kids => nm.size + md.size + (kids.length + wtL kids)
def wtL : List TE → Nat
  | [] => 0
  | e :: t => e.wt + wtL t
end
theorem wtL_append : ∀ (l r : List TE), wtL (l ++ r) = wtL l + wtL r
  | [], r => by simp [wtL]
  | e :: t, r => by rw [List.cons_append, wtL, wtL, wtL_append t r]; omega
theorem wt_step (kids : List TE) (k : Nat) (h : k < kids.length) : wtL (kids.take (k + 1)) = wtL (kids.take k) + kids[k].wt := by
  rw [List.take_succ_eq_append_getElem h, wtL_append]; simp [wtL]
theorem wt_le (kids : List TE) (k : Nat) : wtL (kids.take k) ≤ wtL kids := by
  have := wtL_append (kids.take k) (kids.drop k)
  rw [List.take_append_drop] at this
  omega
mutual
theorem nodes_wt : ∀ e : TE, e.nodes ≤ e.wt + 1
  | .node _ _ _ _ kids => by
    have := nodesL_wt kids
    rw [TE.nodes, TE.wt]; omega
theorem nodesL_wt : ∀ l : List TE, nodesL l ≤ l.length + wtL l
  | [] => Nat.le_refl _
  | e :: t => by
    have h1 := nodes_wt e
    have h2 := nodesL_wt t
    rw [nodesL, wtL, List.length_cons]; omega
end
/-- What is left behind a weight, or -1. -/
def leftI (left : Int) (n : Nat) : Int := if (n : Int) ≤ left then left - n else -1
theorem left_no {left : Int} {n : Nat} (h : left < (n : Int)) : leftI left n = -1 := if_neg (by omega)
theorem left_yes {left : Int} {n : Nat} (h : (n : Int) ≤ left) : leftI left n = left - n := if_pos h

end Go.Proofs.YtffabnmgcicpiaaGreat

namespace Go.Proofs.YtffabnmgcicpiaaGreat
open Go.RowKit Go.PlainAid

end Go.Proofs.YtffabnmgcicpiaaGreat

namespace Go.Proofs.YtffabnmgcicpiaaGreat
open Go.RowKit Go.PlainAid

theorem einfo : (Tryz.prog.info? 31).map (fun i => (i.zero, i.size, i.bytes)) = some (some (.agg #[.int .i64 0, .int .i64 0, .string ⟨#[]⟩, .string ⟨#[]⟩, .slice none 0 0]), 5, 72) := by kernel_rfl
theorem make_exprs (n : Nat) (hn : n ≤ 1048576) : ∃ M : Array Value, M.size = n * 5 ∧ ∀ W : World, (Instr.makeSlice 25 (.int .i64 (n : Int)) (.int .i64 (n : Int))).run Tryz.prog W = .ok (.slice (some ⟨W.heap.size, 0, none⟩) n n) (W.alloc (.cells M 31)) := by
  obtain ⟨i0, hi, hz0, hz1, hz2⟩ := info_parts einfo
  refine ⟨madeCells (Value.agg #[.int .i64 0, .int .i64 0, .string ⟨#[]⟩, .string ⟨#[]⟩, .slice none 0 0]).cells (((n : Nat) : Int).toNat * i0.size), by rw [size_madeCells, hz1]; simp, fun W => ?_⟩
  have h := run_make (P := Tryz.prog) W 25 31 i0 _ Tryz.underlying25 hi hz0 .i64 .i64 (n : Int) (n : Int) (by omega) (by omega) (by rw [hz2]; omega) (by omega)
  simpa using h

theorem IsE.form {w : World} {lo n : Nat} : ∀ {h : Nat} {v : Value} {e : TE}, IsE w lo n h v e → ∃ (k m : Int) (nm md : ByteArray) (a : Option Addr) (len cap : Nat), v = .agg #[.int .i64 k, .int .i64 m, .string nm, .string md, .slice a len cap]
  | 0, _, _, hE => hE.elim
  | _ + 1, _, .node k m nm md _, ⟨a, cap, hv, _, _⟩ => ⟨k, m, nm, md, a, _, cap, hv⟩
theorem IsE.form5 {w : World} {lo n h : Nat} {c0 c1 c2 c3 c4 : Value} {e : TE} (hE : IsE w lo n h (.agg #[c0, c1, c2, c3, c4]) e) : ∃ (k m : Int) (nm md : ByteArray) (a : Option Addr) (len cap : Nat), c0 = .int .i64 k ∧ c1 = .int .i64 m ∧ c2 = .string nm ∧ c3 = .string md ∧ c4 = .slice a len cap := by
  obtain ⟨k, m, nm, md, a, len, cap, hv⟩ := hE.form
  simp only [Value.agg.injEq, Array.mk.injEq, List.cons.injEq] at hv
  exact ⟨k, m, nm, md, a, len, cap, hv.1, hv.2.1, hv.2.2.1, hv.2.2.2.1, hv.2.2.2.2.1⟩

/-- Five cells are written one behind the other. -/
abbrev put5 (w : World) (B o : Nat) (x0 x1 x2 x3 x4 : Value) : World := ((((w.setCell ⟨B, o, none⟩ x0).setCell ⟨B, o + 1, none⟩ x1).setCell ⟨B, o + 2, none⟩ x2).setCell ⟨B, o + 3, none⟩ x3).setCell ⟨B, o + 4, none⟩ x4
theorem put5_size (w : World) (B o : Nat) (x0 x1 x2 x3 x4 : Value) : (put5 w B o x0 x1 x2 x3 x4).heap.size = w.heap.size := by simp [put5, World.setCell]
theorem put5_heap (w : World) (B o : Nat) (x0 x1 x2 x3 x4 : Value) (b : Nat) (h : b ≠ B) : (put5 w B o x0 x1 x2 x3 x4).heap[b]? = w.heap[b]? := by
  unfold put5
  rw [Below.heap_setCell _ _ _ _ (by simpa using h), Below.heap_setCell _ _ _ _ (by simpa using h), Below.heap_setCell _ _ _ _ (by simpa using h), Below.heap_setCell _ _ _ _ (by simpa using h), Below.heap_setCell _ _ _ _ (by simpa using h)]
theorem put5_below (w : World) (B o : Nat) (x0 x1 x2 x3 x4 : Value) {n : Nat} (h : n ≤ B) : Below n w (put5 w B o x0 x1 x2 x3 x4) :=
  (((((Below.refl n w).setCell (p := ⟨B, o, none⟩) h _).setCell (p := ⟨B, o + 1, none⟩) h _).setCell (p := ⟨B, o + 2, none⟩) h _).setCell (p := ⟨B, o + 3, none⟩) h _).setCell (p := ⟨B, o + 4, none⟩) h _
theorem put5_frozen (w : World) (B o : Nat) (x0 x1 x2 x3 x4 : Value) (j : Nat) : (put5 w B o x0 x1 x2 x3 x4).frozen? ⟨B, j, none⟩ = w.frozen? ⟨B, j, none⟩ := by
  unfold put5
  rw [World.frozen?_setCell, World.frozen?_setCell, World.frozen?_setCell, World.frozen?_setCell, World.frozen?_setCell]
theorem cell_other (w : World) (B i j : Nat) (v : Value) (h : i ≠ j) : (w.setCell ⟨B, i, none⟩ v).cell? ⟨B, j, none⟩ = w.cell? ⟨B, j, none⟩ :=
  World.cell?_setCell_other _ ⟨B, i, none⟩ ⟨B, j, none⟩ _ (by simp <;> omega)
theorem put5_other (w : World) (B o : Nat) (x0 x1 x2 x3 x4 : Value) (j : Nat) (h : j < o ∨ o + 5 ≤ j) : (put5 w B o x0 x1 x2 x3 x4).cell? ⟨B, j, none⟩ = w.cell? ⟨B, j, none⟩ := by
  unfold put5
  rw [cell_other _ _ _ _ _ (by omega), cell_other _ _ _ _ _ (by omega), cell_other _ _ _ _ _ (by omega), cell_other _ _ _ _ _ (by omega), cell_other _ _ _ _ _ (by omega)]
theorem cell_same (w : World) (B i : Nat) (v : Value) (h : (w.cell? ⟨B, i, none⟩).isSome = true) : (w.setCell ⟨B, i, none⟩ v).cell? ⟨B, i, none⟩ = some v :=
  World.cell?_setCell_same' _ _ _ h
theorem put5_at (w : World) (B o : Nat) (x0 x1 x2 x3 x4 : Value) (h : ∀ j, o ≤ j → j < o + 5 → ∃ v, w.cell? ⟨B, j, none⟩ = some v) :
    (put5 w B o x0 x1 x2 x3 x4).cell? ⟨B, o, none⟩ = some x0 ∧ (put5 w B o x0 x1 x2 x3 x4).cell? ⟨B, o + 1, none⟩ = some x1 ∧ (put5 w B o x0 x1 x2 x3 x4).cell? ⟨B, o + 2, none⟩ = some x2 ∧ (put5 w B o x0 x1 x2 x3 x4).cell? ⟨B, o + 3, none⟩ = some x3 ∧ (put5 w B o x0 x1 x2 x3 x4).cell? ⟨B, o + 4, none⟩ = some x4 := by
  have hs : ∀ j, o ≤ j → j < o + 5 → (w.cell? ⟨B, j, none⟩).isSome = true := fun j h1 h2 => by obtain ⟨v, hv⟩ := h j h1 h2; rw [hv]; rfl
  unfold put5
  refine ⟨?_, ?_, ?_, ?_, ?_⟩
  · rw [cell_other _ _ _ _ _ (by omega), cell_other _ _ _ _ _ (by omega), cell_other _ _ _ _ _ (by omega), cell_other _ _ _ _ _ (by omega)]
    exact cell_same _ _ _ _ (hs _ (by omega) (by omega))
  · rw [cell_other _ _ _ _ _ (by omega), cell_other _ _ _ _ _ (by omega), cell_other _ _ _ _ _ (by omega)]
    exact cell_same _ _ _ _ (by rw [cell_other _ _ _ _ _ (by omega)]; exact hs _ (by omega) (by omega))
  · rw [cell_other _ _ _ _ _ (by omega), cell_other _ _ _ _ _ (by omega)]
    exact cell_same _ _ _ _ (by rw [cell_other _ _ _ _ _ (by omega), cell_other _ _ _ _ _ (by omega)]; exact hs _ (by omega) (by omega))
  · rw [cell_other _ _ _ _ _ (by omega)]
    exact cell_same _ _ _ _ (by rw [cell_other _ _ _ _ _ (by omega), cell_other _ _ _ _ _ (by omega), cell_other _ _ _ _ _ (by omega)]; exact hs _ (by omega) (by omega))
  · exact cell_same _ _ _ _ (by rw [cell_other _ _ _ _ _ (by omega), cell_other _ _ _ _ _ (by omega), cell_other _ _ _ _ _ (by omega), cell_other _ _ _ _ _ (by omega)]; exact hs _ (by omega) (by omega))

/-- The first k kids lie copied in the block B. -/
def Copied (w : World) (B h k : Nat) (kids : List TE) : Prop := ∀ j (hj : j < kids.length), j < k → ∃ c0 c1 c2 c3 c4 : Value,
  w.cell? ⟨B, j * 5, none⟩ = some c0 ∧ w.cell? ⟨B, j * 5 + 1, none⟩ = some c1 ∧ w.cell? ⟨B, j * 5 + 2, none⟩ = some c2 ∧ w.cell? ⟨B, j * 5 + 3, none⟩ = some c3 ∧ w.cell? ⟨B, j * 5 + 4, none⟩ = some c4 ∧ IsE w (B + 1) w.heap.size h (.agg #[c0, c1, c2, c3, c4]) kids[j]

theorem Copied.next {w w2 : World} {B h k : Nat} {kids : List TE} {x0 x1 x2 x3 x4 : Value} (hp : k < kids.length) (hD : Copied w B h k kids) (hz : B < w.heap.size) (hb2 : Below w.heap.size w w2)
    (hc : ∀ j, j < kids.length * 5 → ∃ v, w2.cell? ⟨B, j, none⟩ = some v) (hE : IsE w2 w.heap.size w2.heap.size h (.agg #[x0, x1, x2, x3, x4]) (kids[k]'hp)) : Copied (put5 w2 B (k * 5) x0 x1 x2 x3 x4) B h (k + 1) kids := by
  intro j hj hjk
  have hs2 : Same (B + 1) w2.heap.size w2 (put5 w2 B (k * 5) x0 x1 x2 x3 x4) := fun b h1 h2 => put5_heap _ _ _ _ _ _ _ _ b (by omega)
  have hsz := put5_size w2 B (k * 5) x0 x1 x2 x3 x4
  by_cases e : j = k
  · subst e
    obtain ⟨a0, a1, a2, a3, a4⟩ := put5_at w2 B (j * 5) x0 x1 x2 x3 x4 (fun i h1 h2 => hc i (by omega))
    exact ⟨x0, x1, x2, x3, x4, a0, a1, a2, a3, a4, IsE.same (fun b h1 h2 => hs2 b (by omega) h2) (by omega) (by omega) h _ _ hE⟩
  · obtain ⟨c0, c1, c2, c3, c4, d0, d1, d2, d3, d4, hr⟩ := hD j hj (by omega)
    have hcc : ∀ i, i < k * 5 → (put5 w2 B (k * 5) x0 x1 x2 x3 x4).cell? ⟨B, i, none⟩ = w.cell? ⟨B, i, none⟩ := fun i hi =>
      (put5_other w2 B (k * 5) x0 x1 x2 x3 x4 i (by omega)).trans (hb2.cell (p := ⟨B, i, none⟩) hz)
    refine ⟨c0, c1, c2, c3, c4, (hcc _ (by omega)).trans d0, (hcc _ (by omega)).trans d1, (hcc _ (by omega)).trans d2, (hcc _ (by omega)).trans d3, (hcc _ (by omega)).trans d4, IsE.same (fun b h1 h2 => ?_) (Nat.le_refl _) (by have := hb2.size; omega) h _ _ hr⟩
    exact (hs2 b h1 (by have := hb2.size; omega)).trans (hb2.block b h2)

end Go.Proofs.YtffabnmgcicpiaaGreat

namespace Go.Proofs.YtffabnmgcicpiaaGreat
open Go.RowKit Go.PlainAid

theorem alloc_size (w : World) (o : Obj) : (w.alloc o).heap.size = w.heap.size + 1 := by simp
theorem new_frozen (X : World) (C : Array Value) (t : TypeId) (i : Nat) : (X.alloc (.cells C t)).frozen? ⟨X.heap.size, i, none⟩ = false := by simp
theorem third (w : World) (o1 o2 : Obj) (C : Array Value) (t : TypeId) (i : Nat) : (((w.alloc o1).alloc o2).alloc (.cells C t)).cell? ⟨w.heap.size + 1 + 1, i, none⟩ = C[i]? ∧ (((w.alloc o1).alloc o2).alloc (.cells C t)).frozen? ⟨w.heap.size + 1 + 1, i, none⟩ = false := by
  have e : w.heap.size + 1 + 1 = ((w.alloc o1).alloc o2).heap.size := by rw [alloc_size, alloc_size]
  rw [e]
  exact ⟨World.cell?_alloc_new .., new_frozen _ _ _ _⟩
theorem second (w : World) (o1 o3 : Obj) (C : Array Value) (t : TypeId) (i : Nat) : (((w.alloc o1).alloc (.cells C t)).alloc o3).cell? ⟨w.heap.size + 1, i, none⟩ = C[i]? ∧ (((w.alloc o1).alloc (.cells C t)).alloc o3).frozen? ⟨w.heap.size + 1, i, none⟩ = false := by
  have e : w.heap.size + 1 = (w.alloc o1).heap.size := by rw [alloc_size]
  have hb : Below ((w.alloc o1).alloc (.cells C t)).heap.size ((w.alloc o1).alloc (.cells C t)) (((w.alloc o1).alloc (.cells C t)).alloc o3) := (Below.refl _ _).alloc (Nat.le_refl _) _
  rw [e]
  have hl : (w.alloc o1).heap.size < ((w.alloc o1).alloc (.cells C t)).heap.size := by rw [alloc_size (w.alloc o1)]; exact Nat.lt_succ_self _
  refine ⟨(hb.cell (p := ⟨_, i, none⟩) hl).trans (World.cell?_alloc_new ..), (hb.frozen (p := ⟨_, i, none⟩) hl).trans (new_frozen _ _ _ _)⟩

end Go.Proofs.YtffabnmgcicpiaaGreat

namespace Go.Proofs.YtffabnmgcicpiaaGreat
open Go.RowKit Go.PlainAid

/-- A parameter. -/
structure TA where
  name : ByteArray
  type : Int
def TA.wt (a : TA) : Nat := a.name.size
def IsArg (_ : World) (_ _ : Nat) (v : Value) (a : TA) : Prop := v = .agg #[.string a.name, .int .i64 a.type] ∧ a.name.size ≤ maxLen
theorem IsArg.same {w w' : World} {lo n lo' n' : Nat} (_ : Same lo n w w') (_ : lo' ≤ lo) (_ : n ≤ n') (v : Value) (a : TA) (h : IsArg w lo n v a) : IsArg w' lo' n' v a := h
theorem IsArg.form {w : World} {lo n : Nat} {c0 c1 : Value} {a : TA} (h : IsArg w lo n (.agg #[c0, c1]) a) : ∃ (s : ByteArray) (t : Int), c0 = .string s ∧ c1 = .int .i64 t := by
  have := h.1
  simp only [Value.agg.injEq, Array.mk.injEq, List.cons.injEq] at this
  exact ⟨_, _, this.1, this.2.1⟩
end Go.Proofs.YtffabnmgcicpiaaGreat

namespace Go.Proofs.YtffabnmgcicpiaaGreat
open Go.RowKit Go.PlainAid

/-- A row that can be read, all of it in the blocks from lo on and below n, each element as R says. -/
def IsArgs (R : Value → TA → Prop) (w : World) (lo n : Nat) (a : Option Addr) (xs : List TA) : Prop :=
  xs = [] ∨ ∃ b off : Nat, a = some ⟨b, off, none⟩ ∧ lo ≤ b ∧ b < n ∧ ∀ j (hj : j < xs.length), ∃ c0 c1 : Value,
    w.cell? ⟨b, off + j * 2, none⟩ = some c0 ∧ w.cell? ⟨b, off + j * 2 + 1, none⟩ = some c1 ∧ R (.agg #[c0, c1]) xs[j]
theorem IsArgs.mono {R R' : Value → TA → Prop} {w w' : World} {lo n lo' n' : Nat} {a : Option Addr} {xs : List TA} (h : IsArgs R w lo n a xs) (hR : ∀ v e, R v e → R' v e) (hs : Same lo n w w') (hl : lo' ≤ lo) (hn : n ≤ n') : IsArgs R' w' lo' n' a xs := by
  rcases h with h | ⟨b, off, h1, h0, h2, h3⟩
  · exact .inl h
  · refine .inr ⟨b, off, h1, by omega, by omega, fun j hj => ?_⟩
    obtain ⟨c0, c1, d0, d1, hr⟩ := h3 j hj
    have hc : ∀ o, w'.cell? ⟨b, o, none⟩ = w.cell? ⟨b, o, none⟩ := fun o => World.cell?_of_block (w := w) (hs b h0 h2)
    exact ⟨c0, c1, (hc _).trans d0, (hc _).trans d1, hR _ _ hr⟩
theorem IsArgs.kept  {w w' : World} {lo n m : Nat} {a : Option Addr} {xs : List TA} (hk : IsArgs (IsArg w lo n) w lo n a xs) (hb : Below n w w') (hnm : n ≤ m) : IsArgs (IsArg w' lo m) w' lo m a xs :=
  hk.mono (fun v e he => IsArg.same  (Below.same hb) (Nat.le_refl _) hnm v e he) (Below.same hb) (Nat.le_refl _) hnm
def wtArgs (l : List TA) : Nat := (l.map TA.wt).sum
theorem wtArg_step (xs : List TA) (k : Nat) (h : k < xs.length) : wtArgs (xs.take (k + 1)) = wtArgs (xs.take k) + xs[k].wt := by
  unfold wtArgs; rw [List.take_succ_eq_append_getElem h, List.map_append, List.sum_append]; simp
theorem wtArg_le (xs : List TA) (k : Nat) : wtArgs (xs.take k) ≤ wtArgs xs := by
  have : wtArgs xs = wtArgs (xs.take k) + wtArgs (xs.drop k) := by
    unfold wtArgs
    conv => lhs; rw [← List.take_append_drop k xs]
    rw [List.map_append, List.sum_append]
  omega

/-- 2 cells are written one behind the other. -/
abbrev put2 (w : World) (B o : Nat) (x0 x1 : Value) : World := (w.setCell ⟨B, o, none⟩ x0).setCell ⟨B, o + 1, none⟩ x1
theorem put2_size (w : World) (B o : Nat) (x0 x1 : Value) : (put2 w B o x0 x1).heap.size = w.heap.size := by simp [put2, World.setCell]
theorem put2_heap (w : World) (B o : Nat) (x0 x1 : Value) (b : Nat) (h : b ≠ B) : (put2 w B o x0 x1).heap[b]? = w.heap[b]? := by
  unfold put2
  rw [Below.heap_setCell _ _ _ _ (by simpa using h), Below.heap_setCell _ _ _ _ (by simpa using h)]
theorem put2_below (w : World) (B o : Nat) (x0 x1 : Value) {n : Nat} (h : n ≤ B) : Below n w (put2 w B o x0 x1) :=
  (((Below.refl n w).setCell (p := ⟨B, o, none⟩) h _).setCell (p := ⟨B, o + 1, none⟩) h _)
theorem put2_frozen (w : World) (B o : Nat) (x0 x1 : Value) (j : Nat) : (put2 w B o x0 x1).frozen? ⟨B, j, none⟩ = w.frozen? ⟨B, j, none⟩ := by
  unfold put2
  rw [World.frozen?_setCell, World.frozen?_setCell]
theorem put2_other (w : World) (B o : Nat) (x0 x1 : Value) (j : Nat) (h : j < o ∨ o + 2 ≤ j) : (put2 w B o x0 x1).cell? ⟨B, j, none⟩ = w.cell? ⟨B, j, none⟩ := by
  unfold put2
  rw [cell_other _ _ _ _ _ (by omega), cell_other _ _ _ _ _ (by omega)]
theorem put2_at (w : World) (B o : Nat) (x0 x1 : Value) (h : ∀ j, o ≤ j → j < o + 2 → ∃ v, w.cell? ⟨B, j, none⟩ = some v) :
    (put2 w B o x0 x1).cell? ⟨B, o, none⟩ = some x0 ∧ (put2 w B o x0 x1).cell? ⟨B, o + 1, none⟩ = some x1 := by
  have hs : ∀ j, o ≤ j → j < o + 2 → (w.cell? ⟨B, j, none⟩).isSome = true := fun j h1 h2 => by obtain ⟨v, hv⟩ := h j h1 h2; rw [hv]; rfl
  unfold put2
  refine ⟨?_, ?_⟩
  · rw [cell_other _ _ _ _ _ (by omega)]
    exact cell_same _ _ _ _ (hs _ (by omega) (by omega))
  · exact cell_same _ _ _ _ (by rw [cell_other _ _ _ _ _ (by omega)]; exact hs _ (by omega) (by omega))
theorem infoArg : (Tryz.prog.info? 75).map (fun i => (i.zero, i.size, i.bytes)) = some (some (.agg #[.string ⟨#[]⟩, .int .i64 0]), 2, 24) := by kernel_rfl
theorem makeArgs (n : Nat) (hn : n ≤ 1048576) : ∃ M : Array Value, M.size = n * 2 ∧ ∀ W : World, (Instr.makeSlice 29 (.int .i64 (n : Int)) (.int .i64 (n : Int))).run Tryz.prog W = .ok (.slice (some ⟨W.heap.size, 0, none⟩) n n) (W.alloc (.cells M 75)) := by
  obtain ⟨i0, hi, hz0, hz1, hz2⟩ := info_parts infoArg
  refine ⟨madeCells (Value.cells (.agg #[.string ⟨#[]⟩, .int .i64 0])) (((n : Nat) : Int).toNat * i0.size), by rw [size_madeCells, hz1]; simp, fun W => ?_⟩
  have h := run_make (P := Tryz.prog) W 29 75 i0 _ Tryz.underlying29 hi hz0 .i64 .i64 (n : Int) (n : Int) (by omega) (by omega) (by rw [hz2]; omega) (by omega)
  simpa using h
/-- The first k elements lie copied in the block B. -/
def CopiedArg (w : World) (B : Nat)  (k : Nat) (kids : List TA) : Prop := ∀ j (hj : j < kids.length), j < k → ∃ c0 c1 : Value,
  w.cell? ⟨B, j * 2, none⟩ = some c0 ∧ w.cell? ⟨B, j * 2 + 1, none⟩ = some c1 ∧ (IsArg w (B + 1) w.heap.size) (.agg #[c0, c1]) kids[j]
theorem CopiedArg.next {w w2 : World} {B : Nat}  {k : Nat} {kids : List TA} {x0 x1 : Value} (hp : k < kids.length) (hD : CopiedArg w B  k kids) (hz : B < w.heap.size) (hb2 : Below w.heap.size w w2)
    (hc : ∀ j, j < kids.length * 2 → ∃ v, w2.cell? ⟨B, j, none⟩ = some v) (hE : (IsArg w2 w.heap.size w2.heap.size) (.agg #[x0, x1]) (kids[k]'hp)) : CopiedArg (put2 w2 B (k * 2) x0 x1) B  (k + 1) kids := by
  intro j hj hjk
  have hs2 : Same (B + 1) w2.heap.size w2 (put2 w2 B (k * 2) x0 x1) := fun b h1 h2 => put2_heap _ _ _ _ _ b (by omega)
  have hsz := put2_size w2 B (k * 2) x0 x1
  by_cases e : j = k
  · subst e
    obtain ⟨a0, a1⟩ := put2_at w2 B (j * 2) x0 x1 (fun i h1 h2 => hc i (by omega))
    exact ⟨x0, x1, a0, a1, IsArg.same  (fun b h1 h2 => hs2 b (by omega) h2) (by omega) (by omega) _ _ hE⟩
  · obtain ⟨c0, c1, d0, d1, hr⟩ := hD j hj (by omega)
    have hcc : ∀ i, i < k * 2 → (put2 w2 B (k * 2) x0 x1).cell? ⟨B, i, none⟩ = w.cell? ⟨B, i, none⟩ := fun i hi =>
      (put2_other w2 B (k * 2) x0 x1 i (by omega)).trans (hb2.cell (p := ⟨B, i, none⟩) hz)
    refine ⟨c0, c1, (hcc _ (by omega)).trans d0, (hcc _ (by omega)).trans d1, IsArg.same  (fun b h1 h2 => ?_) (Nat.le_refl _) (by have := hb2.size; omega) _ _ hr⟩
    exact (hs2 b h1 (by have := hb2.size; omega)).trans (hb2.block b h2)

end Go.Proofs.YtffabnmgcicpiaaGreat

namespace Go.Proofs.YtffabnmgcicpiaaGreat
open Go.RowKit Go.PlainAid

end Go.Proofs.YtffabnmgcicpiaaGreat

namespace Go.Proofs.YtffabnmgcicpiaaGreat
open Go.RowKit Go.PlainAid

/-- A function. -/
structure TF where
  name : ByteArray
  pub : Bool
  args : List TA
  type : Int
  body : TE
def TF.wt (f : TF) : Nat := f.name.size + (f.args.length + wtArgs f.args) + f.body.wt
/-- A value that is a function, all of it in the blocks from lo on and below n. -/
def IsFun (w : World) (lo n h : Nat) (v : Value) (f : TF) : Prop :=
  ∃ (aa : Option Addr) (ca : Nat) (b0 b1 b2 b3 b4 : Value), v = .agg #[.string f.name, .bool f.pub, .slice aa f.args.length ca, .int .i64 f.type, b0, b1, b2, b3, b4] ∧ (f.name.size ≤ maxLen ∧ f.args.length ≤ maxLen) ∧ IsArgs (IsArg w lo n) w lo n aa f.args ∧ IsE w lo n h (.agg #[b0, b1, b2, b3, b4]) f.body
theorem IsFun.same {w w' : World} {lo n lo' n' : Nat} (h : Nat) (hs : Same lo n w w') (hl : lo' ≤ lo) (hn : n ≤ n') (v : Value) (f : TF) (hF : IsFun w lo n h v f) : IsFun w' lo' n' h v f := by
  obtain ⟨aa, ca, b0, b1, b2, b3, b4, hv, hz, ha, hE⟩ := hF
  exact ⟨aa, ca, b0, b1, b2, b3, b4, hv, hz, ha.mono (fun v e he => IsArg.same hs hl hn v e he) hs hl hn, IsE.same hs hl hn h _ _ hE⟩
theorem IsFun.form {w : World} {lo n : Nat} (h : Nat) {c0 c1 c2 c3 c4 c5 c6 c7 c8 : Value} {f : TF} (hF : IsFun w lo n h (.agg #[c0, c1, c2, c3, c4, c5, c6, c7, c8]) f) :
    ∃ (xs : ByteArray) (xp : Bool) (xa : Option Addr) (xl xc : Nat) (xt xk xm : Int) (xn xd : ByteArray) (ya : Option Addr) (yl yc : Nat), c0 = .string xs ∧ c1 = .bool xp ∧ c2 = .slice xa xl xc ∧ c3 = .int .i64 xt ∧ c4 = .int .i64 xk ∧ c5 = .int .i64 xm ∧ c6 = .string xn ∧ c7 = .string xd ∧ c8 = .slice ya yl yc := by
  obtain ⟨aa, ca, b0, b1, b2, b3, b4, hv, hz, ha, hE⟩ := hF
  obtain ⟨k, m, nm, md, a, len, cap, e0, e1, e2, e3, e4⟩ := hE.form5
  subst e0 e1 e2 e3 e4
  simp only [Value.agg.injEq, Array.mk.injEq, List.cons.injEq] at hv
  obtain ⟨h0, h1, h2, h3, h4, h5, h6, h7, h8, _⟩ := hv
  exact ⟨_, _, _, _, _, _, _, _, _, _, _, _, _, h0, h1, h2, h3, h4, h5, h6, h7, h8⟩
end Go.Proofs.YtffabnmgcicpiaaGreat

namespace Go.Proofs.YtffabnmgcicpiaaGreat
open Go.RowKit Go.PlainAid

/-- A row that can be read, all of it in the blocks from lo on and below n, each element as R says. -/
def IsFuns (R : Value → TF → Prop) (w : World) (lo n : Nat) (a : Option Addr) (xs : List TF) : Prop :=
  xs = [] ∨ ∃ b off : Nat, a = some ⟨b, off, none⟩ ∧ lo ≤ b ∧ b < n ∧ ∀ j (hj : j < xs.length), ∃ c0 c1 c2 c3 c4 c5 c6 c7 c8 : Value,
    w.cell? ⟨b, off + j * 9, none⟩ = some c0 ∧ w.cell? ⟨b, off + j * 9 + 1, none⟩ = some c1 ∧ w.cell? ⟨b, off + j * 9 + 2, none⟩ = some c2 ∧ w.cell? ⟨b, off + j * 9 + 3, none⟩ = some c3 ∧ w.cell? ⟨b, off + j * 9 + 4, none⟩ = some c4 ∧ w.cell? ⟨b, off + j * 9 + 5, none⟩ = some c5 ∧ w.cell? ⟨b, off + j * 9 + 6, none⟩ = some c6 ∧ w.cell? ⟨b, off + j * 9 + 7, none⟩ = some c7 ∧ w.cell? ⟨b, off + j * 9 + 8, none⟩ = some c8 ∧ R (.agg #[c0, c1, c2, c3, c4, c5, c6, c7, c8]) xs[j]
theorem IsFuns.mono {R R' : Value → TF → Prop} {w w' : World} {lo n lo' n' : Nat} {a : Option Addr} {xs : List TF} (h : IsFuns R w lo n a xs) (hR : ∀ v e, R v e → R' v e) (hs : Same lo n w w') (hl : lo' ≤ lo) (hn : n ≤ n') : IsFuns R' w' lo' n' a xs := by
  rcases h with h | ⟨b, off, h1, h0, h2, h3⟩
  · exact .inl h
  · refine .inr ⟨b, off, h1, by omega, by omega, fun j hj => ?_⟩
    obtain ⟨c0, c1, c2, c3, c4, c5, c6, c7, c8, d0, d1, d2, d3, d4, d5, d6, d7, d8, hr⟩ := h3 j hj
    have hc : ∀ o, w'.cell? ⟨b, o, none⟩ = w.cell? ⟨b, o, none⟩ := fun o => World.cell?_of_block (w := w) (hs b h0 h2)
    exact ⟨c0, c1, c2, c3, c4, c5, c6, c7, c8, (hc _).trans d0, (hc _).trans d1, (hc _).trans d2, (hc _).trans d3, (hc _).trans d4, (hc _).trans d5, (hc _).trans d6, (hc _).trans d7, (hc _).trans d8, hR _ _ hr⟩
theorem IsFuns.kept {h : Nat} {w w' : World} {lo n m : Nat} {a : Option Addr} {xs : List TF} (hk : IsFuns (IsFun w lo n h) w lo n a xs) (hb : Below n w w') (hnm : n ≤ m) : IsFuns (IsFun w' lo m h) w' lo m a xs :=
  hk.mono (fun v e he => IsFun.same h (Below.same hb) (Nat.le_refl _) hnm v e he) (Below.same hb) (Nat.le_refl _) hnm
def wtFuns (l : List TF) : Nat := (l.map TF.wt).sum
theorem wtFun_step (xs : List TF) (k : Nat) (h : k < xs.length) : wtFuns (xs.take (k + 1)) = wtFuns (xs.take k) + xs[k].wt := by
  unfold wtFuns; rw [List.take_succ_eq_append_getElem h, List.map_append, List.sum_append]; simp
theorem wtFun_le (xs : List TF) (k : Nat) : wtFuns (xs.take k) ≤ wtFuns xs := by
  have : wtFuns xs = wtFuns (xs.take k) + wtFuns (xs.drop k) := by
    unfold wtFuns
    conv => lhs; rw [← List.take_append_drop k xs]
    rw [List.map_append, List.sum_append]
  omega

/-- 9 cells are written one behind the other. -/
abbrev put9 (w : World) (B o : Nat) (x0 x1 x2 x3 x4 x5 x6 x7 x8 : Value) : World := ((((((((w.setCell ⟨B, o, none⟩ x0).setCell ⟨B, o + 1, none⟩ x1).setCell ⟨B, o + 2, none⟩ x2).setCell ⟨B, o + 3, none⟩ x3).setCell ⟨B, o + 4, none⟩ x4).setCell ⟨B, o + 5, none⟩ x5).setCell ⟨B, o + 6, none⟩ x6).setCell ⟨B, o + 7, none⟩ x7).setCell ⟨B, o + 8, none⟩ x8
theorem put9_size (w : World) (B o : Nat) (x0 x1 x2 x3 x4 x5 x6 x7 x8 : Value) : (put9 w B o x0 x1 x2 x3 x4 x5 x6 x7 x8).heap.size = w.heap.size := by simp [put9, World.setCell]
theorem put9_heap (w : World) (B o : Nat) (x0 x1 x2 x3 x4 x5 x6 x7 x8 : Value) (b : Nat) (h : b ≠ B) : (put9 w B o x0 x1 x2 x3 x4 x5 x6 x7 x8).heap[b]? = w.heap[b]? := by
  unfold put9
  rw [Below.heap_setCell _ _ _ _ (by simpa using h), Below.heap_setCell _ _ _ _ (by simpa using h), Below.heap_setCell _ _ _ _ (by simpa using h), Below.heap_setCell _ _ _ _ (by simpa using h), Below.heap_setCell _ _ _ _ (by simpa using h), Below.heap_setCell _ _ _ _ (by simpa using h), Below.heap_setCell _ _ _ _ (by simpa using h), Below.heap_setCell _ _ _ _ (by simpa using h), Below.heap_setCell _ _ _ _ (by simpa using h)]
theorem put9_below (w : World) (B o : Nat) (x0 x1 x2 x3 x4 x5 x6 x7 x8 : Value) {n : Nat} (h : n ≤ B) : Below n w (put9 w B o x0 x1 x2 x3 x4 x5 x6 x7 x8) :=
  ((((((((((Below.refl n w).setCell (p := ⟨B, o, none⟩) h _).setCell (p := ⟨B, o + 1, none⟩) h _).setCell (p := ⟨B, o + 2, none⟩) h _).setCell (p := ⟨B, o + 3, none⟩) h _).setCell (p := ⟨B, o + 4, none⟩) h _).setCell (p := ⟨B, o + 5, none⟩) h _).setCell (p := ⟨B, o + 6, none⟩) h _).setCell (p := ⟨B, o + 7, none⟩) h _).setCell (p := ⟨B, o + 8, none⟩) h _)
theorem put9_frozen (w : World) (B o : Nat) (x0 x1 x2 x3 x4 x5 x6 x7 x8 : Value) (j : Nat) : (put9 w B o x0 x1 x2 x3 x4 x5 x6 x7 x8).frozen? ⟨B, j, none⟩ = w.frozen? ⟨B, j, none⟩ := by
  unfold put9
  rw [World.frozen?_setCell, World.frozen?_setCell, World.frozen?_setCell, World.frozen?_setCell, World.frozen?_setCell, World.frozen?_setCell, World.frozen?_setCell, World.frozen?_setCell, World.frozen?_setCell]
theorem put9_other (w : World) (B o : Nat) (x0 x1 x2 x3 x4 x5 x6 x7 x8 : Value) (j : Nat) (h : j < o ∨ o + 9 ≤ j) : (put9 w B o x0 x1 x2 x3 x4 x5 x6 x7 x8).cell? ⟨B, j, none⟩ = w.cell? ⟨B, j, none⟩ := by
  unfold put9
  rw [cell_other _ _ _ _ _ (by omega), cell_other _ _ _ _ _ (by omega), cell_other _ _ _ _ _ (by omega), cell_other _ _ _ _ _ (by omega), cell_other _ _ _ _ _ (by omega), cell_other _ _ _ _ _ (by omega), cell_other _ _ _ _ _ (by omega), cell_other _ _ _ _ _ (by omega), cell_other _ _ _ _ _ (by omega)]
theorem put9_at (w : World) (B o : Nat) (x0 x1 x2 x3 x4 x5 x6 x7 x8 : Value) (h : ∀ j, o ≤ j → j < o + 9 → ∃ v, w.cell? ⟨B, j, none⟩ = some v) :
    (put9 w B o x0 x1 x2 x3 x4 x5 x6 x7 x8).cell? ⟨B, o, none⟩ = some x0 ∧ (put9 w B o x0 x1 x2 x3 x4 x5 x6 x7 x8).cell? ⟨B, o + 1, none⟩ = some x1 ∧ (put9 w B o x0 x1 x2 x3 x4 x5 x6 x7 x8).cell? ⟨B, o + 2, none⟩ = some x2 ∧ (put9 w B o x0 x1 x2 x3 x4 x5 x6 x7 x8).cell? ⟨B, o + 3, none⟩ = some x3 ∧ (put9 w B o x0 x1 x2 x3 x4 x5 x6 x7 x8).cell? ⟨B, o + 4, none⟩ = some x4 ∧ (put9 w B o x0 x1 x2 x3 x4 x5 x6 x7 x8).cell? ⟨B, o + 5, none⟩ = some x5 ∧ (put9 w B o x0 x1 x2 x3 x4 x5 x6 x7 x8).cell? ⟨B, o + 6, none⟩ = some x6 ∧ (put9 w B o x0 x1 x2 x3 x4 x5 x6 x7 x8).cell? ⟨B, o + 7, none⟩ = some x7 ∧ (put9 w B o x0 x1 x2 x3 x4 x5 x6 x7 x8).cell? ⟨B, o + 8, none⟩ = some x8 := by
  have hs : ∀ j, o ≤ j → j < o + 9 → (w.cell? ⟨B, j, none⟩).isSome = true := fun j h1 h2 => by obtain ⟨v, hv⟩ := h j h1 h2; rw [hv]; rfl
  unfold put9
  refine ⟨?_, ?_, ?_, ?_, ?_, ?_, ?_, ?_, ?_⟩
  · rw [cell_other _ _ _ _ _ (by omega), cell_other _ _ _ _ _ (by omega), cell_other _ _ _ _ _ (by omega), cell_other _ _ _ _ _ (by omega), cell_other _ _ _ _ _ (by omega), cell_other _ _ _ _ _ (by omega), cell_other _ _ _ _ _ (by omega), cell_other _ _ _ _ _ (by omega)]
    exact cell_same _ _ _ _ (hs _ (by omega) (by omega))
  · rw [cell_other _ _ _ _ _ (by omega), cell_other _ _ _ _ _ (by omega), cell_other _ _ _ _ _ (by omega), cell_other _ _ _ _ _ (by omega), cell_other _ _ _ _ _ (by omega), cell_other _ _ _ _ _ (by omega), cell_other _ _ _ _ _ (by omega)]
    exact cell_same _ _ _ _ (by rw [cell_other _ _ _ _ _ (by omega)]; exact hs _ (by omega) (by omega))
  · rw [cell_other _ _ _ _ _ (by omega), cell_other _ _ _ _ _ (by omega), cell_other _ _ _ _ _ (by omega), cell_other _ _ _ _ _ (by omega), cell_other _ _ _ _ _ (by omega), cell_other _ _ _ _ _ (by omega)]
    exact cell_same _ _ _ _ (by rw [cell_other _ _ _ _ _ (by omega), cell_other _ _ _ _ _ (by omega)]; exact hs _ (by omega) (by omega))
  · rw [cell_other _ _ _ _ _ (by omega), cell_other _ _ _ _ _ (by omega), cell_other _ _ _ _ _ (by omega), cell_other _ _ _ _ _ (by omega), cell_other _ _ _ _ _ (by omega)]
    exact cell_same _ _ _ _ (by rw [cell_other _ _ _ _ _ (by omega), cell_other _ _ _ _ _ (by omega), cell_other _ _ _ _ _ (by omega)]; exact hs _ (by omega) (by omega))
  · rw [cell_other _ _ _ _ _ (by omega), cell_other _ _ _ _ _ (by omega), cell_other _ _ _ _ _ (by omega), cell_other _ _ _ _ _ (by omega)]
    exact cell_same _ _ _ _ (by rw [cell_other _ _ _ _ _ (by omega), cell_other _ _ _ _ _ (by omega), cell_other _ _ _ _ _ (by omega), cell_other _ _ _ _ _ (by omega)]; exact hs _ (by omega) (by omega))
  · rw [cell_other _ _ _ _ _ (by omega), cell_other _ _ _ _ _ (by omega), cell_other _ _ _ _ _ (by omega)]
    exact cell_same _ _ _ _ (by rw [cell_other _ _ _ _ _ (by omega), cell_other _ _ _ _ _ (by omega), cell_other _ _ _ _ _ (by omega), cell_other _ _ _ _ _ (by omega), cell_other _ _ _ _ _ (by omega)]; exact hs _ (by omega) (by omega))
  · rw [cell_other _ _ _ _ _ (by omega), cell_other _ _ _ _ _ (by omega)]
    exact cell_same _ _ _ _ (by rw [cell_other _ _ _ _ _ (by omega), cell_other _ _ _ _ _ (by omega), cell_other _ _ _ _ _ (by omega), cell_other _ _ _ _ _ (by omega), cell_other _ _ _ _ _ (by omega), cell_other _ _ _ _ _ (by omega)]; exact hs _ (by omega) (by omega))
  · rw [cell_other _ _ _ _ _ (by omega)]
    exact cell_same _ _ _ _ (by rw [cell_other _ _ _ _ _ (by omega), cell_other _ _ _ _ _ (by omega), cell_other _ _ _ _ _ (by omega), cell_other _ _ _ _ _ (by omega), cell_other _ _ _ _ _ (by omega), cell_other _ _ _ _ _ (by omega), cell_other _ _ _ _ _ (by omega)]; exact hs _ (by omega) (by omega))
  · exact cell_same _ _ _ _ (by rw [cell_other _ _ _ _ _ (by omega), cell_other _ _ _ _ _ (by omega), cell_other _ _ _ _ _ (by omega), cell_other _ _ _ _ _ (by omega), cell_other _ _ _ _ _ (by omega), cell_other _ _ _ _ _ (by omega), cell_other _ _ _ _ _ (by omega), cell_other _ _ _ _ _ (by omega)]; exact hs _ (by omega) (by omega))
theorem infoFun : (Tryz.prog.info? 33).map (fun i => (i.zero, i.size, i.bytes)) = some (some (.agg #[.string ⟨#[]⟩, .bool false, .slice none 0 0, .int .i64 0, .int .i64 0, .int .i64 0, .string ⟨#[]⟩, .string ⟨#[]⟩, .slice none 0 0]), 9, 128) := by kernel_rfl
theorem makeFuns (n : Nat) (hn : n ≤ 1048576) : ∃ M : Array Value, M.size = n * 9 ∧ ∀ W : World, (Instr.makeSlice 24 (.int .i64 (n : Int)) (.int .i64 (n : Int))).run Tryz.prog W = .ok (.slice (some ⟨W.heap.size, 0, none⟩) n n) (W.alloc (.cells M 33)) := by
  obtain ⟨i0, hi, hz0, hz1, hz2⟩ := info_parts infoFun
  refine ⟨madeCells (Value.cells (.agg #[.string ⟨#[]⟩, .bool false, .slice none 0 0, .int .i64 0, .int .i64 0, .int .i64 0, .string ⟨#[]⟩, .string ⟨#[]⟩, .slice none 0 0])) (((n : Nat) : Int).toNat * i0.size), by rw [size_madeCells, hz1]; simp, fun W => ?_⟩
  have h := run_make (P := Tryz.prog) W 24 33 i0 _ Tryz.underlying24 hi hz0 .i64 .i64 (n : Int) (n : Int) (by omega) (by omega) (by rw [hz2]; omega) (by omega)
  simpa using h
/-- The first k elements lie copied in the block B. -/
def CopiedFun (w : World) (B : Nat) (h : Nat) (k : Nat) (kids : List TF) : Prop := ∀ j (hj : j < kids.length), j < k → ∃ c0 c1 c2 c3 c4 c5 c6 c7 c8 : Value,
  w.cell? ⟨B, j * 9, none⟩ = some c0 ∧ w.cell? ⟨B, j * 9 + 1, none⟩ = some c1 ∧ w.cell? ⟨B, j * 9 + 2, none⟩ = some c2 ∧ w.cell? ⟨B, j * 9 + 3, none⟩ = some c3 ∧ w.cell? ⟨B, j * 9 + 4, none⟩ = some c4 ∧ w.cell? ⟨B, j * 9 + 5, none⟩ = some c5 ∧ w.cell? ⟨B, j * 9 + 6, none⟩ = some c6 ∧ w.cell? ⟨B, j * 9 + 7, none⟩ = some c7 ∧ w.cell? ⟨B, j * 9 + 8, none⟩ = some c8 ∧ (IsFun w (B + 1) w.heap.size h) (.agg #[c0, c1, c2, c3, c4, c5, c6, c7, c8]) kids[j]
theorem CopiedFun.next {w w2 : World} {B : Nat} (h : Nat) {k : Nat} {kids : List TF} {x0 x1 x2 x3 x4 x5 x6 x7 x8 : Value} (hp : k < kids.length) (hD : CopiedFun w B h k kids) (hz : B < w.heap.size) (hb2 : Below w.heap.size w w2)
    (hc : ∀ j, j < kids.length * 9 → ∃ v, w2.cell? ⟨B, j, none⟩ = some v) (hE : (IsFun w2 w.heap.size w2.heap.size h) (.agg #[x0, x1, x2, x3, x4, x5, x6, x7, x8]) (kids[k]'hp)) : CopiedFun (put9 w2 B (k * 9) x0 x1 x2 x3 x4 x5 x6 x7 x8) B h (k + 1) kids := by
  intro j hj hjk
  have hs2 : Same (B + 1) w2.heap.size w2 (put9 w2 B (k * 9) x0 x1 x2 x3 x4 x5 x6 x7 x8) := fun b h1 h2 => put9_heap _ _ _ _ _ _ _ _ _ _ _ _ b (by omega)
  have hsz := put9_size w2 B (k * 9) x0 x1 x2 x3 x4 x5 x6 x7 x8
  by_cases e : j = k
  · subst e
    obtain ⟨a0, a1, a2, a3, a4, a5, a6, a7, a8⟩ := put9_at w2 B (j * 9) x0 x1 x2 x3 x4 x5 x6 x7 x8 (fun i h1 h2 => hc i (by omega))
    exact ⟨x0, x1, x2, x3, x4, x5, x6, x7, x8, a0, a1, a2, a3, a4, a5, a6, a7, a8, IsFun.same h (fun b h1 h2 => hs2 b (by omega) h2) (by omega) (by omega) _ _ hE⟩
  · obtain ⟨c0, c1, c2, c3, c4, c5, c6, c7, c8, d0, d1, d2, d3, d4, d5, d6, d7, d8, hr⟩ := hD j hj (by omega)
    have hcc : ∀ i, i < k * 9 → (put9 w2 B (k * 9) x0 x1 x2 x3 x4 x5 x6 x7 x8).cell? ⟨B, i, none⟩ = w.cell? ⟨B, i, none⟩ := fun i hi =>
      (put9_other w2 B (k * 9) x0 x1 x2 x3 x4 x5 x6 x7 x8 i (by omega)).trans (hb2.cell (p := ⟨B, i, none⟩) hz)
    refine ⟨c0, c1, c2, c3, c4, c5, c6, c7, c8, (hcc _ (by omega)).trans d0, (hcc _ (by omega)).trans d1, (hcc _ (by omega)).trans d2, (hcc _ (by omega)).trans d3, (hcc _ (by omega)).trans d4, (hcc _ (by omega)).trans d5, (hcc _ (by omega)).trans d6, (hcc _ (by omega)).trans d7, (hcc _ (by omega)).trans d8, IsFun.same h (fun b h1 h2 => ?_) (Nat.le_refl _) (by have := hb2.size; omega) _ _ hr⟩
    exact (hs2 b h1 (by have := hb2.size; omega)).trans (hb2.block b h2)

end Go.Proofs.YtffabnmgcicpiaaGreat

namespace Go.Proofs.YtffabnmgcicpiaaGreat
open Go.RowKit Go.PlainAid

theorem alloc_cell (w : World) (C : Array Value) (t : TypeId) (i : Nat) : (w.alloc (.cells C t)).cell? ⟨w.heap.size, i, none⟩ = C[i]? := World.cell?_alloc_new ..
end Go.Proofs.YtffabnmgcicpiaaGreat

namespace Go.Proofs.YtffabnmgcicpiaaGreat
open Go.RowKit Go.PlainAid

/-- A block that holds these cells, none of them frozen. -/
def Blk (w : World) (B : Nat) (C : List Value) : Prop := (∀ i, w.cell? ⟨B, i, none⟩ = C[i]?) ∧ ∀ i, w.frozen? ⟨B, i, none⟩ = false
theorem Blk.new (w : World) (C : List Value) (t : TypeId) : Blk (w.alloc (.cells C.toArray t)) w.heap.size C := ⟨fun i => by simp, fun i => new_frozen _ _ _ _⟩
theorem Blk.below {w w' : World} {B n : Nat} {C : List Value} (h : Blk w B C) (hb : Below n w w') (hB : B < n) : Blk w' B C :=
  ⟨fun i => (hb.cell (p := ⟨B, i, none⟩) hB).trans (h.1 i), fun i => (hb.frozen (p := ⟨B, i, none⟩) hB).trans (h.2 i)⟩
theorem Blk.old {w : World} {B : Nat} {C : List Value} (h : Blk w B C) (o : Obj) (hB : B < w.heap.size) : Blk (w.alloc o) B C := h.below ((Below.refl _ _).alloc (Nat.le_refl _) _) hB
theorem Blk.set {w : World} {B : Nat} {C : List Value} (h : Blk w B C) (i : Nat) (v : Value) (hi : i < C.length) : Blk (w.setCell ⟨B, i, none⟩ v) B (C.set i v) := by
  refine ⟨fun j => ?_, fun j => by rw [World.frozen?_setCell]; exact h.2 j⟩
  by_cases e : i = j
  · subst e
    rw [cell_same _ _ _ _ (by rw [h.1 i]; simp [hi]), List.getElem?_set_self hi]
  · rw [cell_other _ _ _ _ _ e, h.1 j, List.getElem?_set_ne e]
theorem Blk.other {w : World} {B : Nat} {C : List Value} (h : Blk w B C) (B' i : Nat) (v : Value) (hB : B' ≠ B) : Blk (w.setCell ⟨B', i, none⟩ v) B C :=
  ⟨fun j => (World.cell?_setCell_other _ ⟨B', i, none⟩ ⟨B, j, none⟩ _ (by simp <;> omega)).trans (h.1 j), fun j => by rw [World.frozen?_setCell]; exact h.2 j⟩

end Go.Proofs.YtffabnmgcicpiaaGreat

namespace Go.Proofs.YtffabnmgcicpiaaGreat
open Go.RowKit Go.PlainAid

/-- A row of words that can be read, in a block from lo on and below n. -/
def IsWds (w : World) (lo n : Nat) (a : Option Addr) (ws : List ByteArray) : Prop :=
  ws = [] ∨ ∃ b off : Nat, a = some ⟨b, off, none⟩ ∧ lo ≤ b ∧ b < n ∧ ∀ j (hj : j < ws.length), w.cell? ⟨b, off + j, none⟩ = some (.string ws[j])
theorem IsWds.same {w w' : World} {lo n lo' n' : Nat} {a : Option Addr} {ws : List ByteArray} (h : IsWds w lo n a ws) (hs : Same lo n w w') (hl : lo' ≤ lo) (hn : n ≤ n') : IsWds w' lo' n' a ws := by
  rcases h with h | ⟨b, off, h1, h0, h2, h3⟩
  · exact .inl h
  · exact .inr ⟨b, off, h1, by omega, by omega, fun j hj => (World.cell?_of_block (w := w) (hs b h0 h2)).trans (h3 j hj)⟩
theorem IsWds.kept {w w' : World} {lo n m : Nat} {a : Option Addr} {ws : List ByteArray} (h : IsWds w lo n a ws) (hb : Below n w w') (hnm : n ≤ m) : IsWds w' lo m a ws := h.same (Below.same hb) (Nat.le_refl _) hnm
def wtWds (l : List ByteArray) : Nat := (l.map ByteArray.size).sum
theorem wtWds_step (xs : List ByteArray) (k : Nat) (h : k < xs.length) : wtWds (xs.take (k + 1)) = wtWds (xs.take k) + xs[k].size := by
  unfold wtWds; rw [List.take_succ_eq_append_getElem h, List.map_append, List.sum_append]; simp
theorem wtWds_le (xs : List ByteArray) (k : Nat) : wtWds (xs.take k) ≤ wtWds xs := by
  have : wtWds xs = wtWds (xs.take k) + wtWds (xs.drop k) := by
    unfold wtWds
    conv => lhs; rw [← List.take_append_drop k xs]
    rw [List.map_append, List.sum_append]
  omega

set_option maxHeartbeats 1000000 in
theorem wsinfo : (Tryz.prog.info? 9).map (fun i => (i.zero, i.size, i.bytes)) = some (some (.string ⟨#[]⟩), 1, 16) := by kernel_rfl
theorem make_wds (n : Nat) (hn : n ≤ 1048576) : ∃ M : Array Value, M.size = n ∧ ∀ W : World, (Instr.makeSlice 23 (.int .i64 (n : Int)) (.int .i64 (n : Int))).run Tryz.prog W = .ok (.slice (some ⟨W.heap.size, 0, none⟩) n n) (W.alloc (.cells M 9)) := by
  obtain ⟨i0, hi, hz0, hz1, hz2⟩ := info_parts wsinfo
  refine ⟨madeCells (Value.string ⟨#[]⟩).cells (((n : Nat) : Int).toNat * i0.size), by rw [size_madeCells, hz1]; simp, fun W => ?_⟩
  have h := run_make (P := Tryz.prog) W 23 9 i0 (.string ⟨#[]⟩) Tryz.underlying23 hi hz0 .i64 .i64 (n : Int) (n : Int) (by omega) (by omega) (by rw [hz2]; omega) (by omega)
  simpa using h

end Go.Proofs.YtffabnmgcicpiaaGreat

namespace Go.Proofs.YtffabnmgcicpiaaGreat
open Go.RowKit Go.PlainAid

/-- A module. -/
structure TM where
  uses : List ByteArray
  funs : List TF
  main : List TE
def TM.wt (m : TM) : Nat := (m.uses.length + wtWds m.uses) + (m.funs.length + wtFuns m.funs) + (m.main.length + wtL m.main)
/-- A value that is a module, all of it in the blocks from lo on and below n. -/
def IsMod (w : World) (lo n h : Nat) (v : Value) (m : TM) : Prop :=
  ∃ (a1 a2 a3 : Option Addr) (k1 k2 k3 : Nat), v = .agg #[.slice a1 m.uses.length k1, .slice a2 m.funs.length k2, .slice a3 m.main.length k3] ∧ (m.uses.length ≤ maxLen ∧ m.funs.length ≤ maxLen ∧ m.main.length ≤ maxLen ∧ (∀ x ∈ m.uses, x.size ≤ maxLen) ∧ m.uses.length ≤ k1) ∧ IsWds w lo n a1 m.uses ∧ IsFuns (IsFun w lo n h) w lo n a2 m.funs ∧ IsKids (IsE w lo n h) w lo n a3 m.main
theorem IsMod.same {w w' : World} {lo n lo' n' : Nat} (h : Nat) (hs : Same lo n w w') (hl : lo' ≤ lo) (hn : n ≤ n') (v : Value) (m : TM) (hM : IsMod w lo n h v m) : IsMod w' lo' n' h v m := by
  obtain ⟨a1, a2, a3, k1, k2, k3, hv, hz, q1, q2, q3⟩ := hM
  exact ⟨a1, a2, a3, k1, k2, k3, hv, hz, q1.same hs hl hn, q2.mono (fun v e he => IsFun.same h hs hl hn v e he) hs hl hn, q3.mono (IsE.same hs hl hn h) hs hl hn⟩
theorem IsMod.kept {w w' : World} {lo n m : Nat} (h : Nat) (hb : Below n w w') (hnm : n ≤ m) (v : Value) (x : TM) (hM : IsMod w lo n h v x) : IsMod w' lo m h v x := IsMod.same h (Below.same hb) (Nat.le_refl _) hnm v x hM

end Go.Proofs.YtffabnmgcicpiaaGreat

namespace Go.Proofs.YtffabnmgcicpiaaGreat
open Go.RowKit Go.PlainAid

theorem Blk.cellAt {w : World} {B i : Nat} {C : List Value} {v : Value} (h : Blk w B C) (hv : C[i]? = some v) : w.cell? ⟨B, i, none⟩ = some v := (h.1 i).trans hv
end Go.Proofs.YtffabnmgcicpiaaGreat
