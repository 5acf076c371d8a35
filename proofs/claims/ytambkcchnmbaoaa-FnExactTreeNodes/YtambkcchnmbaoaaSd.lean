/- Levels of a tree: which lists lie at one depth, how many expressions they have, how deep they are. No conditions. -/
import Derived.Test.YtambkcchnmbaoaaSa
namespace Go.Proofs.Ytambkcchnmbaoaa
open Go.RowKit Go.PlainAid
open Go.ChangeMaps (setBlock)

/-- A list of kids in its block, and the stretch of blocks in which all of it lies. -/
structure Bd where
  b : Nat
  cap : Nat
  lo : Nat
  hi : Nat
  kids : List TE
def bd0 : Bd := ⟨0, 0, 0, 0, []⟩
def Good (w : World) (h : Nat) (t : Bd) : Prop := t.kids ≠ [] ∧ t.kids.length ≤ maxLen ∧ IsSK (IsS w h) w t.lo t.hi (some ⟨t.b, 0, none⟩) t.kids
theorem Good.spot {w : World} {h : Nat} {t : Bd} (g : Good w h t) : t.lo ≤ t.b ∧ t.b < t.hi ∧ Plainly w t.b := by
  rcases g.2.2 with e | ⟨b, h1, h0, hp, cut, h2, hm, h3, h4⟩
  · exact absurd e g.1
  · simp only [Option.some.injEq, Addr.mk.injEq, and_true] at h1
    have := cut_mono hm 0 t.kids.length (Nat.zero_le _) (Nat.le_refl _)
    rw [h1]
    exact ⟨h0, by omega, hp⟩
theorem Good.same {w w' : World} {h : Nat} {t : Bd} (g : Good w h t) (hs : Same t.lo t.hi w w') : Good w' h t :=
  ⟨g.1, g.2.1, g.2.2.mono (fun x y v e hx hy he => IsS.same h x y x y v e (fun b h1 h2 => hs b (by omega) (by omega)) (Nat.le_refl _) (Nat.le_refl _) he) hs (Nat.le_refl _) (Nat.le_refl _)⟩
def Apart (s t : Bd) : Prop := s.hi ≤ t.lo ∨ t.hi ≤ s.lo
theorem Apart.symm {s t : Bd} (h : Apart s t) : Apart t s := h.elim .inr .inl
/-- Lists at one depth, below the block N, no two of them in one stretch. -/
def Forest (w : World) (N h : Nat) (bs : List Bd) : Prop := (∀ t ∈ bs, Good w h t ∧ t.hi ≤ N) ∧ bs.Pairwise Apart
theorem Forest.kept {w w' : World} {N h : Nat} {bs : List Bd} (f : Forest w N h bs) (hb : Below N w w') : Forest w' N h bs :=
  ⟨fun t ht => ⟨(f.1 t ht).1.same (fun b h1 h2 => hb.block b (by have := (f.1 t ht).2; omega)), (f.1 t ht).2⟩, f.2⟩
def sumN (bs : List Bd) : Nat := (bs.map (fun t => nodesL t.kids)).sum
def sumC (bs : List Bd) : Nat := (bs.map (fun t => t.kids.length)).sum
def maxD : List Bd → Nat
  | [] => 0
  | t :: r => Nat.max (deepL t.kids) (maxD r)
theorem sumN_snoc (l : List Bd) (t : Bd) : sumN (l ++ [t]) = sumN l + nodesL t.kids := by unfold sumN; rw [List.map_append, List.sum_append]; simp
theorem sumC_snoc (l : List Bd) (t : Bd) : sumC (l ++ [t]) = sumC l + t.kids.length := by unfold sumC; rw [List.map_append, List.sum_append]; simp
theorem maxD_snoc : ∀ (l : List Bd) (t : Bd), maxD (l ++ [t]) = Nat.max (maxD l) (deepL t.kids)
  | [], t => by simp [maxD]
  | s :: r, t => by rw [List.cons_append, maxD, maxD_snoc r t, maxD]; exact (Nat.max_assoc _ _ _).symm
theorem sumN_perm {l r : List Bd} (h : l.Perm r) : sumN l = sumN r := by
  induction h with
  | nil => rfl
  | cons x _ ih => unfold sumN at *; simp only [List.map_cons, List.sum_cons]; omega
  | swap x y _ => unfold sumN; simp only [List.map_cons, List.sum_cons]; omega
  | trans _ _ i1 i2 => exact i1.trans i2
theorem sumC_perm {l r : List Bd} (h : l.Perm r) : sumC l = sumC r := by
  induction h with
  | nil => rfl
  | cons x _ ih => unfold sumC at *; simp only [List.map_cons, List.sum_cons]; omega
  | swap x y _ => unfold sumC; simp only [List.map_cons, List.sum_cons]; omega
  | trans _ _ i1 i2 => exact i1.trans i2
theorem maxD_perm {l r : List Bd} (h : l.Perm r) : maxD l = maxD r := by
  induction h with
  | nil => rfl
  | cons x _ ih => rw [maxD, maxD, ih]
  | swap x y l =>
    show Nat.max _ (Nat.max _ _) = Nat.max _ (Nat.max _ _)
    have e : ∀ a b c : Nat, Nat.max a (Nat.max b c) = Nat.max b (Nat.max a c) := fun a b c => by
      show max a (max b c) = max b (max a c); omega
    exact e _ _ _
  | trans _ _ i1 i2 => exact i1.trans i2
/-- The lists that have been seen. -/
def vsOf (bs : List Bd) (seen : Array Nat) : List Bd := seen.toList.map (fun i => bs.getD i bd0)
theorem vsOf_push (bs : List Bd) (seen : Array Nat) (i : Nat) : vsOf bs (seen.push i) = vsOf bs seen ++ [bs.getD i bd0] := by unfold vsOf; simp
theorem vsOf_mem {bs : List Bd} {seen : Array Nat} {s : Bd} (h : ∀ i ∈ seen.toList, i < bs.length) (hs : s ∈ vsOf bs seen) : s ∈ bs := by
  unfold vsOf at hs
  obtain ⟨i, hi, rfl⟩ := List.mem_map.1 hs
  have := h i hi
  rw [List.getD_eq_getElem?_getD, List.getElem?_eq_getElem this]
  exact List.getElem_mem this
theorem vsOf_all {bs : List Bd} {seen : Array Nat} (hn : seen.toList.Nodup) (h : ∀ i ∈ seen.toList, i < bs.length) (ha : ∀ i, i < bs.length → i ∈ seen.toList) : (vsOf bs seen).Perm bs := by
  have hp : seen.toList.Perm (List.range bs.length) := (List.perm_ext_iff_of_nodup hn List.nodup_range).2 (fun i => by rw [List.mem_range]; exact ⟨h i, ha i⟩)
  have := hp.map (fun i => bs.getD i bd0)
  have e : (List.range bs.length).map (fun i => bs.getD i bd0) = bs := by
    apply List.ext_getElem
    · simp
    · intro i h1 h2
      simp [List.getD_eq_getElem?_getD, List.getElem?_eq_getElem h2]
  rw [e] at this
  exact this
/-- Two lists at different places lie apart. -/
theorem apart_at {bs : List Bd} (h : bs.Pairwise Apart) {i j : Nat} (hi : i < bs.length) (hj : j < bs.length) (hne : i ≠ j) : Apart bs[i] bs[j] := by
  rw [List.pairwise_iff_getElem] at h
  by_cases e : i < j
  · exact h i j hi hj e
  · exact (h j i hj hi (by omega)).symm
def keyE (t : Bd) : Value × Value := (bedV t.b t.kids.length, standV t.b t.kids.length t.cap 1)
/-- The entries of a map are these lists. -/
def Keyed (es : Array MapEntry) (bs : List Bd) : Prop := es.toList.map (fun x => (x.key, x.val)) = bs.map keyE ∧ es.toList.map (·.born) = List.range es.size
theorem Keyed.size {es : Array MapEntry} {bs : List Bd} (h : Keyed es bs) : es.size = bs.length := by
  have := congrArg List.length h.1
  simpa using this
theorem Keyed.at {es : Array MapEntry} {bs : List Bd} (h : Keyed es bs) {x : MapEntry} (hx : x ∈ es.toList) : ∃ (hi : x.born < bs.length), x.key = bedV bs[x.born].b bs[x.born].kids.length ∧ x.val = standV bs[x.born].b bs[x.born].kids.length bs[x.born].cap 1 := by
  obtain ⟨i, hi, rfl⟩ := List.getElem_of_mem hx
  have hs := h.size
  have hi' : i < bs.length := by rw [← hs]; simpa using hi
  have hb : (es.toList[i]).born = i := by
    have := congrArg (fun l => l[i]?) h.2
    simp only [List.getElem?_map, List.getElem?_eq_getElem hi, Option.map_some] at this
    rw [List.getElem?_eq_getElem (by rw [List.length_range]; simpa using hi), List.getElem_range] at this
    simpa using this
  have hk := congrArg (fun l => l[i]?) h.1
  simp only [List.getElem?_map, List.getElem?_eq_getElem hi, List.getElem?_eq_getElem hi', Option.map_some, Option.some.injEq, keyE, Prod.mk.injEq] at hk
  refine ⟨by rw [hb]; exact hi', ?_⟩
  simp only [hb]
  exact hk
theorem Keyed.has {es : Array MapEntry} {bs : List Bd} (h : Keyed es bs) {i : Nat} (hi : i < bs.length) : ∃ x ∈ es.toList, x.born = i := by
  have hs := h.size
  have hi' : i < es.toList.length := by rw [Array.length_toList, hs]; exact hi
  refine ⟨es.toList[i], List.getElem_mem hi', ?_⟩
  have := congrArg (fun l => l[i]?) h.2
  simp only [List.getElem?_map, List.getElem?_eq_getElem hi', Option.map_some] at this
  rw [List.getElem?_eq_getElem (by rw [List.length_range, hs]; exact hi), List.getElem_range] at this
  simpa using this
theorem Keyed.nodup {es : Array MapEntry} {bs : List Bd} (h : Keyed es bs) : (es.toList.map (·.born)).Nodup := by rw [h.2]; exact List.nodup_range
theorem Keyed.push {es : Array MapEntry} {bs : List Bd} (h : Keyed es bs) (t : Bd) : Keyed (es.push ⟨bedV t.b t.kids.length, standV t.b t.kids.length t.cap 1, es.size⟩) (bs ++ [t]) := by
  refine ⟨?_, ?_⟩
  · rw [Array.toList_push, List.map_append, h.1, List.map_append]; rfl
  · rw [Array.toList_push, List.map_append, h.2, Array.size_push, List.range_succ]; rfl
theorem Keyed.noBed {es : Array MapEntry} {bs : List Bd} (h : Keyed es bs) {w : World} {b : Nat} (hb : ∀ t ∈ bs, b ≠ t.b ∧ Plainly w t.b) : NoBed w b es.toList := fun x hx => by
  obtain ⟨hi, hk, _⟩ := h.at hx
  obtain ⟨h1, h2⟩ := hb _ (List.getElem_mem hi)
  exact ⟨_, _, hk, h1, h2⟩
def LevelAt (w : World) (r : Nat) (bs : List Bd) : Prop := ∃ es : Array MapEntry, w.heap[r]? = some (.map es es.size) ∧ Keyed es bs
theorem LevelAt.kept {w w' : World} {r : Nat} {bs : List Bd} (h : LevelAt w r bs) (he : w'.heap[r]? = w.heap[r]?) : LevelAt w' r bs := by
  obtain ⟨es, h1, h2⟩ := h
  exact ⟨es, he.trans h1, h2⟩
theorem LevelAt.lt {w : World} {r : Nat} {bs : List Bd} (h : LevelAt w r bs) : r < w.heap.size := by
  obtain ⟨es, h1, _⟩ := h
  exact (Array.getElem?_eq_some_iff.1 h1).1
/-- The beds that have been met. -/
def MetAt (w : World) (q : Nat) (ms : List Nat) : Prop := ∃ (es : Array MapEntry) (c : Nat), w.heap[q]? = some (.map es c) ∧ es.size = ms.length ∧ ∀ x ∈ es.toList, ∃ b n, x.key = bedV b n ∧ b ∈ ms
theorem MetAt.kept {w w' : World} {q : Nat} {ms : List Nat} (h : MetAt w q ms) (he : w'.heap[q]? = w.heap[q]?) : MetAt w' q ms := by
  obtain ⟨es, c, h1, h2⟩ := h
  exact ⟨es, c, he.trans h1, h2⟩
theorem MetAt.lt {w : World} {q : Nat} {ms : List Nat} (h : MetAt w q ms) : q < w.heap.size := by
  obtain ⟨es, c, h1, _⟩ := h
  exact (Array.getElem?_eq_some_iff.1 h1).1
/-- What 'met[bed] = struct{}{}' does. -/
theorem met_put {w : World} {q b n : Nat} {ms : List Nat} (h : MetAt w q ms) (hb : Plainly w b) (hm : ∀ p ∈ ms, b ≠ p ∧ Plainly w p) : ∃ W, (Instr.mapUpdate 134 (.map (some q)) (bedV b n) (.agg #[])).run Try.prog w = .ok () W ∧ MetAt W q (ms ++ [b]) ∧ w.grownBy W (some q) := by
  obtain ⟨es, c, h1, h2, h3⟩ := h
  refine ⟨_, put_miss 134 108 Try.underlying134 w q b n c (.agg #[]) es h1 hb (fun x hx => ?_), ⟨_, _, blk_at _ (Array.getElem?_eq_some_iff.1 h1).1, by simp [h2], fun x hx => ?_⟩, gr_blk _ (gr_refl _ _)⟩
  · obtain ⟨b', n', hk, hm'⟩ := h3 x hx
    exact ⟨b', n', hk, (hm b' hm').1, (hm b' hm').2⟩
  · rw [Array.toList_push, List.mem_append] at hx
    rcases hx with hx | hx
    · obtain ⟨b', n', hk, hm'⟩ := h3 x hx
      exact ⟨b', n', hk, List.mem_append_left _ hm'⟩
    · rw [List.mem_singleton] at hx
      subst hx
      exact ⟨b, n, rfl, List.mem_append_right _ (List.mem_singleton.2 rfl)⟩
/-- The iterator of a level. -/
def IterAt (w : World) (ri r : Nat) (seen : Array Nat) (bs : List Bd) : Prop := ∃ es : Array MapEntry, w.heap[r]? = some (.map es es.size) ∧ Keyed es bs ∧ w.heap[ri]? = some (.mapIter (some r) es.size seen es.size)
theorem IterAt.kept {w w' : World} {ri r : Nat} {seen : Array Nat} {bs : List Bd} (h : IterAt w ri r seen bs) (h1 : w'.heap[r]? = w.heap[r]?) (h2 : w'.heap[ri]? = w.heap[ri]?) : IterAt w' ri r seen bs := by
  obtain ⟨es, a, b, c⟩ := h
  exact ⟨es, h1.trans a, b, h2.trans c⟩
theorem IterAt.lt {w : World} {ri r : Nat} {seen : Array Nat} {bs : List Bd} (h : IterAt w ri r seen bs) : r < w.heap.size ∧ ri < w.heap.size ∧ r ≠ ri := by
  obtain ⟨es, a, b, c⟩ := h
  refine ⟨(Array.getElem?_eq_some_iff.1 a).1, (Array.getElem?_eq_some_iff.1 c).1, fun e => ?_⟩
  rw [e, c] at a; simp at a
/-- A step of the range over a level. -/
theorem iter_next {w : World} {ri r : Nat} {seen : Array Nat} {bs : List Bd} (h : IterAt w ri r seen bs) :
    ((∀ ty, (Instr.next (.pointer (some ⟨ri, 0, none⟩)) false ty).run Try.prog w = .ok (.tuple #[.bool false]) w) ∧ ∀ i, i < bs.length → i ∈ seen.toList) ∨
    ∃ (i : Nat) (hi : i < bs.length) (W : World), i ∉ seen.toList ∧ (∀ ty, (Instr.next (.pointer (some ⟨ri, 0, none⟩)) false ty).run Try.prog w = .ok (.tuple #[.bool true, bedV bs[i].b bs[i].kids.length, standV bs[i].b bs[i].kids.length bs[i].cap 1]) W) ∧ (Instr.entry (.pointer (some ⟨ri, 0, none⟩))).run Try.prog W = .ok (.tuple #[bedV bs[i].b bs[i].kids.length, standV bs[i].b bs[i].kids.length bs[i].cap 1]) W ∧ IterAt W ri r (seen.push i) bs ∧ w.grownBy W (some ri) := by
  have hlt := h.lt
  obtain ⟨es, hr, hk, hi⟩ := h
  have hold : ∀ x ∈ es.toList, x.born < es.size := fun x hx => by obtain ⟨h1, _⟩ := hk.at hx; rw [hk.size]; exact h1
  rcases run_next_at (P := Try.prog) w 0 ri r es.size es.size seen es es.size hi hr hold (Nat.le_refl _) with ⟨h0, hn⟩ | ⟨e, he, w1, hw, hn⟩
  · refine .inl ⟨fun ty => hn, fun i hi => ?_⟩
    obtain ⟨x, hx, rfl⟩ := hk.has hi
    have := all_seen es seen h0 x hx
    simpa using this
  · obtain ⟨hm, hs⟩ := mem_left he
    obtain ⟨hi', hk1, hk2⟩ := hk.at hm
    have hb1 : ∀ k : Nat, w1.heap[k]? = w.heap[k]? := fun k => by rcases hw with rfl | rfl <;> rfl
    have hsz : w1.heap.size = w.heap.size := by rcases hw with rfl | rfl <;> rfl
    have e1 : (setBlock w1 ri (.mapIter (some r) es.size (seen.push e.born) es.size)).heap[ri]? = some (.mapIter (some r) es.size (seen.push e.born) es.size) := blk_at _ (by rw [hsz]; exact hlt.2.1)
    have e2 : (setBlock w1 ri (.mapIter (some r) es.size (seen.push e.born) es.size)).heap[r]? = some (.map es es.size) := (blk_other _ hlt.2.2).trans ((hb1 r).trans hr)
    refine .inr ⟨e.born, hi', _, fun hc => ?_, fun ty => ?_, ?_, ⟨es, e2, hk, e1⟩, ?_⟩
    · have : seen.contains e.born = true := by simpa using hc
      rw [this] at hs; cases hs
    · rw [hk1, hk2] at hn; exact hn
    · have := run_entry_at (P := Try.prog) _ ri r es.size seen es es.size e e1 e2 hm hk.nodup
      rw [hk1, hk2] at this
      exact this
    · refine gr_blk _ ⟨?_, ?_, ?_, ?_, fun k _ _ => hb1 k⟩
      · rcases hw with rfl | rfl <;> rfl
      · rcases hw with rfl | rfl <;> rfl
      · rcases hw with rfl | rfl <;> rfl
      · omega
end Go.Proofs.Ytambkcchnmbaoaa
