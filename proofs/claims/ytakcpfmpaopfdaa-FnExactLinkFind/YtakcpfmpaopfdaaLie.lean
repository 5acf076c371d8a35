/- The table of functions in memory: a map of structs that is keyed by structs: made, asked, put into. No conditions. -/
import Derived.Test.YtakcpfmpaopfdaaLid
namespace Go.Proofs.Ytakcpfmpaopfdaa
open Go.RowKit Go.PlainAid

open Go.ChangeMaps (setBlock)
abbrev keyL (r : TR) : Value := .agg #[.string r.mod, .string r.name]
abbrev symL (t : TN) : Value := .agg #[.int .i64 (t.num : Int), .bool t.pub]
abbrev symO (o : Option TN) : Value := match o with | some t => symL t | none => .agg #[.int .i64 0, .bool false]
/-- The block b is the map of the table T. -/
def Tbl (w : World) (b : Nat) (T : List TN) : Prop := ∃ (es : Array MapEntry) (c : Nat), w.heap[b]? = some (.map es c) ∧ es.toList.map (fun x => (x.key, x.val)) = T.map (fun t => (keyL t.ref, symL t))
theorem Tbl.lt {w : World} {b : Nat} {T : List TN} (h : Tbl w b T) : b < w.heap.size := by
  obtain ⟨es, c, h1, _⟩ := h
  exact (Array.getElem?_eq_some_iff.1 h1).1
theorem Tbl.kept {w w' : World} {b : Nat} {T : List TN} (h : Tbl w b T) (he : w'.heap[b]? = w.heap[b]?) : Tbl w' b T := by
  obtain ⟨es, c, h1, h2⟩ := h
  exact ⟨es, c, he.trans h1, h2⟩
theorem findT (w : World) (r : TR) : ∀ (es : List MapEntry) (T : List TN) (i : Nat), es.map (fun x => (x.key, x.val)) = T.map (fun t => (keyL t.ref, symL t)) →
    ∃ o : Option (Nat × Value), (Instr.findAsking 54 (keyL r) es i).run Try.prog w = .ok o w ∧ o.map Prod.snd = (T.find? (qR r)).map symL
  | [], [], i, _ => ⟨none, rfl, rfl⟩
  | [], _ :: _, _, h => by simp at h
  | _ :: _, [], _, h => by simp at h
  | x :: t, y :: u, i, h => by
    simp only [List.map_cons, List.cons.injEq, Prod.mk.injEq] at h
    obtain ⟨⟨hk, hv⟩, ht⟩ := h
    have h1 : (Op.equal 54 (keyL r) x.key).run Try.prog w = .ok (qR r y) w := by
      rw [hk]; exact equalCrs_op r y.ref w
    cases hq : qR r y with
    | true =>
      refine ⟨some (i, x.val), ?_, ?_⟩
      · simp only [Instr.findAsking, Sem.run_bind, h1, Result.andThen_ok, hq, if_true, Sem.run_pure]
      · rw [List.find?_cons, hq]; simp [hv]
    | false =>
      obtain ⟨o, h2, h3⟩ := findT w r t u (i + 1) ht
      refine ⟨o, ?_, ?_⟩
      · simp only [Instr.findAsking, Sem.run_bind, h1, Result.andThen_ok, hq, Bool.false_eq_true, if_false, h2]
      · rw [List.find?_cons, hq]; exact h3
theorem findKeyT (w : World) (r : TR) (es : List MapEntry) (T : List TN) (h : es.map (fun x => (x.key, x.val)) = T.map (fun t => (keyL t.ref, symL t))) :
    ∃ o : Option (Nat × Value), (Instr.findKey 54 (keyL r) es).run Try.prog w = .ok o w ∧ o.map Prod.snd = (T.find? (qR r)).map symL := by
  obtain ⟨o, h1, h2⟩ := findT w r es T 0 h
  cases es with
  | nil => 
    cases T with
    | nil => exact ⟨none, by simp [Instr.findKey, Instr.findNow, run_underlying Try.underlying54], rfl⟩
    | cons _ _ => simp at h
  | cons x t => exact ⟨o, by simp [Instr.findKey, Instr.findNow, Instr.sameNow, run_underlying Try.underlying54, h1], h2⟩
set_option maxRecDepth 100000 in
theorem check_ref (w : World) (r : TR) (d : Nat) (em : Bool) : (Instr.checkKey em (d + 2) 54 (keyL r)).run Try.prog w = .ok () w := by
  simp [Instr.checkKey, run_underlying Try.underlying54, run_underlying Try.underlying9, go_sem]
theorem setObj_mapT {P : Program} {w : World} {r c : Nat} {es : Array MapEntry} (hr : w.heap[r]? = some (.map es c)) (o : Obj) : (setObj r o).run P w = .ok () (setBlock w r o) := by
  simp [setObj, Sem.run, hr, setBlock]
theorem tbl_look {w : World} {b : Nat} {T : List TN} (h : Tbl w b T) (r : TR) : (Instr.lookup 51 (.map (some b)) (keyL r) true).run Try.prog w = .ok (.tuple #[symO (T.find? (qR r)), .bool (T.find? (qR r)).isSome]) w := by
  obtain ⟨es, c, h1, h2⟩ := h
  obtain ⟨o, h3, h4⟩ := findKeyT w r es.toList T h2
  have hz := Try.zeroValue48 w
  cases hT : T.find? (qR r) with
  | none =>
    rw [hT] at h4
    cases o with
    | some _ => simp at h4
    | none => simp [Instr.lookup, run_underlying Try.underlying51, getObj, Sem.run, h1, check_ref w r 9998, h3, hz, Result.andThen]
  | some t =>
    rw [hT] at h4
    cases o with
    | none => simp at h4
    | some p =>
      have hp : p.2 = symL t := by simpa using h4
      simp [Instr.lookup, run_underlying Try.underlying51, getObj, Sem.run, h1, check_ref w r 9998, h3, hp, Result.andThen]
theorem blkT (w : World) (b : Nat) (o : Obj) (h : b < w.heap.size) : (setBlock w b o).heap[b]? = some o := by simp [setBlock, h]
theorem offT (w : World) (b k : Nat) (o : Obj) (h : k ≠ b) : (setBlock w b o).heap[k]? = w.heap[k]? := by
  simp only [setBlock]; rw [Array.getElem?_setIfInBounds]; rw [if_neg (by omega)]
theorem belT {w : World} {n b : Nat} (h : n ≤ b) (o : Obj) : Below n w (setBlock w b o) :=
  ⟨rfl, rfl, rfl, by simp [setBlock], fun k hk => offT w b k o (by omega)⟩
theorem tbl_put {w : World} {b : Nat} {T : List TN} (h : Tbl w b T) (t : TN) (hn : T.find? (qR t.ref) = none) : ∃ W, (Instr.mapUpdate 51 (.map (some b)) (keyL t.ref) (symL t)).run Try.prog w = .ok () W ∧ Tbl W b (T ++ [t]) ∧ (∀ n, n ≤ b → Below n w W) ∧ W.heap.size = w.heap.size ∧ ∀ k, k ≠ b → W.heap[k]? = w.heap[k]? := by
  have hlt := h.lt
  obtain ⟨es, c, h1, h2⟩ := h
  obtain ⟨o, h3, h4⟩ := findKeyT w t.ref es.toList T h2
  rw [hn] at h4
  cases o with
  | some _ => simp at h4
  | none =>
    refine ⟨setBlock w b (.map (es.push ⟨keyL t.ref, symL t, c⟩) (c + 1)), ?_, ⟨_, _, blkT w b _ hlt, ?_⟩, fun n hb => belT hb _, by simp [setBlock], fun k hk => offT w b k _ hk⟩
    · simp [Instr.mapUpdate, run_underlying Try.underlying51, getObj, Sem.run, h1, check_ref w t.ref 9998, h3, setObj_mapT h1, Result.andThen]
    · rw [Array.toList_push, List.map_append, List.map_append, h2]; rfl
end Go.Proofs.Ytakcpfmpaopfdaa
