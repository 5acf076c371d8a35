/- What holds while the levels of a tree are gone through. No conditions. -/
import Derived.Test.YtambkcchnmbaoaaSd
namespace Go.Proofs.Ytambkcchnmbaoaa
open Go.RowKit Go.PlainAid
open Go.ChangeMaps (setBlock)

theorem level_len {w : World} {r : Nat} {bs : List Bd} (h : LevelAt w r bs) : ∀ ty, (Builtin.len_ #[136] ty #[.map (some r)]).run Try.prog w = .ok (.int .i64 (bs.length : Int)) w := fun ty => by
  obtain ⟨es, h1, h2⟩ := h
  rw [← h2.size]
  simp [Builtin.len_, run_underlying Try.underlying136, getObj, Sem.run, h1, Result.andThen, goInt]
theorem met_len {w : World} {q : Nat} {ms : List Nat} (h : MetAt w q ms) : ∀ ty, (Builtin.len_ #[134] ty #[.map (some q)]).run Try.prog w = .ok (.int .i64 (ms.length : Int)) w := fun ty => by
  obtain ⟨es, c, h1, h2, _⟩ := h
  rw [← h2]
  simp [Builtin.len_, run_underlying Try.underlying134, getObj, Sem.run, h1, Result.andThen, goInt]
theorem level_range {w : World} {r : Nat} {bs : List Bd} (h : LevelAt w r bs) : ∃ o, (Instr.range 136 (.map (some r))).run Try.prog w = .ok (.pointer (some ⟨w.heap.size, 0, none⟩)) (w.alloc o) ∧ IterAt (w.alloc o) w.heap.size r #[] bs := by
  have hlt := h.lt
  obtain ⟨es, h1, h2⟩ := h
  refine ⟨.mapIter (some r) es.size #[] es.size, ?_, es, (((Below.refl w.heap.size w).alloc (Nat.le_refl _) _).block r hlt).trans h1, h2, heap_alloc_new w _⟩
  simp [Instr.range, run_underlying Try.underlying136, getObj, newObj, Sem.run, h1, Result.andThen]
/-- What holds at the head of the outer loop. -/
structure Lev (w wr : World) (n q r h' : Nat) (bs : List Bd) (ms : List Nat) (T Dp N D : Nat) : Prop where
  below : Below w.heap.size w wr
  level : LevelAt wr r bs
  met : MetAt wr q ms
  forest : Forest wr n h' bs
  out : ∀ p ∈ ms, Plainly wr p ∧ p < n ∧ ∀ t ∈ bs, p < t.lo ∨ t.hi ≤ p
  nodes : N + sumN bs = T
  deep : D + maxD bs = Dp
  steps : D ≤ ms.length + 1
  q0 : w.heap.size ≤ q
  r0 : w.heap.size ≤ r
  qr : q ≠ r
theorem level_new (w : World) : LevelAt (w.alloc (.map #[] 0)) w.heap.size [] := ⟨#[], heap_alloc_new w _, rfl, rfl⟩
theorem met_new (w : World) : MetAt (w.alloc (.map #[] 0)) w.heap.size [] := ⟨#[], 0, heap_alloc_new w _, rfl, fun x hx => by simp at hx⟩
/-- A sum over what has not been seen. -/
def restS (f : Nat → Nat) (n : Nat) (seen : Array Nat) : Nat := (((List.range n).filter (fun k => !seen.contains k)).map f).sum
theorem rest_go (f : Nat → Nat) (seen : Array Nat) (i : Nat) (hs : seen.contains i = false) : ∀ l : List Nat, l.Nodup → i ∈ l → ((l.filter (fun k => !seen.contains k)).map f).sum = f i + ((l.filter (fun k => !(seen.push i).contains k)).map f).sum
  | [], _, h => by simp at h
  | x :: t, hn, hm => by
    rw [List.nodup_cons] at hn
    have hc : ∀ k, (seen.push i).contains k = (seen.contains k || (k == i)) := fun k => by
      rw [Bool.eq_iff_iff]; simp
    by_cases e : x = i
    · subst e
      have hx : (!(seen.push x).contains x) = false := by rw [hc]; simp
      have ht : t.filter (fun k => !(seen.push x).contains k) = t.filter (fun k => !seen.contains k) := List.filter_congr (fun k hk => by
        rw [hc]
        have : (k == x) = false := by rw [beq_eq_false_iff_ne]; exact fun e => hn.1 (e ▸ hk)
        rw [this, Bool.or_false])
      rw [List.filter_cons_of_pos (by rw [hs]; rfl), List.filter_cons_of_neg (by rw [hx]; simp), ht, List.map_cons, List.sum_cons]
    · have hm' : i ∈ t := by
        rcases List.mem_cons.1 hm with h | h
        · exact absurd h.symm e
        · exact h
      have ih := rest_go f seen i hs t hn.2 hm'
      have hx : (!(seen.push i).contains x) = (!seen.contains x) := by
        rw [hc]
        have : (x == i) = false := by rw [beq_eq_false_iff_ne]; exact e
        rw [this, Bool.or_false]
      cases hsx : seen.contains x with
      | true => rw [List.filter_cons_of_neg (by rw [hsx]; simp), List.filter_cons_of_neg (by rw [hx, hsx]; simp), ih]
      | false => rw [List.filter_cons_of_pos (by rw [hsx]; rfl), List.filter_cons_of_pos (by rw [hx, hsx]; rfl), List.map_cons, List.sum_cons, List.map_cons, List.sum_cons, ih]; omega
theorem rest_push (f : Nat → Nat) (n : Nat) (seen : Array Nat) (i : Nat) (hi : i < n) (hs : i ∉ seen.toList) : restS f n seen = f i + restS f n (seen.push i) :=
  rest_go f seen i (by
    cases h : seen.contains i with
    | false => rfl
    | true => exact absurd (by simpa using h) hs) _ List.nodup_range (List.mem_range.2 hi)
def nodesAt (bs : List Bd) (i : Nat) : Nat := nodesL (bs.getD i bd0).kids
theorem rest_all (bs : List Bd) : restS (nodesAt bs) bs.length #[] = sumN bs := by
  have e : (List.range bs.length).map (nodesAt bs) = bs.map (fun t => nodesL t.kids) := by
    apply List.ext_getElem
    · simp
    · intro i h1 h2
      simp at h2
      simp [nodesAt, List.getD_eq_getElem?_getD, List.getElem?_eq_getElem h2]
  unfold restS sumN
  rw [show (List.range bs.length).filter (fun k => !(#[] : Array Nat).contains k) = List.range bs.length from List.filter_eq_self.2 (fun _ _ => by simp), e]
/-- What holds while a level is gone through. -/
structure Mid (w w2 : World) (n q r rb ri h' : Nat) (bs : List Bd) (ms : List Nat) (seen : Array Nat) (bs' : List Bd) (N c : Nat) : Prop where
  below : Below w.heap.size w w2
  iter : IterAt w2 ri r seen bs
  nodup : seen.toList.Nodup
  bound : ∀ i ∈ seen.toList, i < bs.length
  forest : Forest w2 n h' bs
  next : LevelAt w2 rb bs'
  forest' : Forest w2 n (h' - 1) bs'
  inside : ∀ t' ∈ bs', ∃ s ∈ vsOf bs seen, s.b < t'.lo ∧ s.lo ≤ t'.lo ∧ t'.hi ≤ s.hi
  met : MetAt w2 q (ms ++ (vsOf bs seen).map Bd.b)
  out : ∀ p ∈ ms, Plainly w2 p ∧ p < n ∧ ∀ t ∈ bs, p < t.lo ∨ t.hi ≤ p
  count : c = N + sumC (vsOf bs seen)
  nodes : sumC (vsOf bs seen) + sumN bs' = sumN (vsOf bs seen)
  deep : Nat.max 1 (maxD (vsOf bs seen)) = 1 + maxD bs'
  q0 : w.heap.size ≤ q
  r0 : w.heap.size ≤ r
  b0 : w.heap.size ≤ rb
  i0 : w.heap.size ≤ ri
  dist : q ≠ r ∧ q ≠ rb ∧ q ≠ ri ∧ r ≠ rb ∧ rb ≠ ri
  rest : sumN (vsOf bs seen) + restS (nodesAt bs) bs.length seen = sumN bs
def seenOf (w : World) (ri : Nat) : Array Nat := match w.heap[ri]? with | some (.mapIter _ _ seen _) => seen | _ => #[]
theorem IterAt.seen {w : World} {ri r : Nat} {seen : Array Nat} {bs : List Bd} (h : IterAt w ri r seen bs) : seenOf w ri = seen := by
  obtain ⟨es, _, _, h3⟩ := h
  unfold seenOf; rw [h3]
theorem mid_start {w wr : World} {n q r h' : Nat} {bs : List Bd} {ms : List Nat} {T Dp N D : Nat} {o : Obj} (L : Lev w wr n q r h' bs ms T Dp N D) (hn : n ≤ w.heap.size) (hit : IterAt ((wr.alloc (.map #[] 0)).alloc o) (wr.heap.size + 1) r #[] bs) :
    Mid w ((wr.alloc (.map #[] 0)).alloc o) n q r wr.heap.size (wr.heap.size + 1) h' bs ms #[] [] N N := by
  have hb : Below wr.heap.size wr ((wr.alloc (.map #[] 0)).alloc o) := ((Below.refl _ _).alloc (Nat.le_refl _) _).alloc (by simp) _
  have hB := L.below.trans (hb.mono L.below.size)
  have hs := L.below.size
  have hq := L.met.lt
  have hr := L.level.lt
  refine ⟨hB, hit, by simp, fun i hi => by simp at hi, L.forest.kept (hb.mono (by omega)), (level_new wr).kept (((Below.refl _ _).alloc (Nat.le_refl _) _).block _ (by simp)), ⟨fun t ht => by simp at ht, List.Pairwise.nil⟩, fun t ht => by simp at ht, ?_, fun p hp => ?_, rfl, rfl, rfl, L.q0, L.r0, hs, by omega, ⟨L.qr, by omega, by omega, by omega, by omega⟩, by rw [rest_all]; simp [vsOf, sumN]⟩
  · have : ms ++ (vsOf bs #[]).map Bd.b = ms := by simp [vsOf]
    rw [this]
    exact L.met.kept (hb.block q hq)
  · obtain ⟨h1, h2, h3⟩ := L.out p hp
    exact ⟨plain_mono h1 (hb.block p (plain_lt h1)), h2, h3⟩
theorem level_add {w' : World} {r : Nat} {bs : List Bd} {es : Array MapEntry} {t : Bd} (hk : Keyed es bs) (h : w'.heap[r]? = some (.map (es.push ⟨bedV t.b t.kids.length, standV t.b t.kids.length t.cap 1, es.size⟩) (es.size + 1))) : LevelAt w' r (bs ++ [t]) :=
  ⟨_, by rw [Array.size_push]; exact h, hk.push t⟩

theorem add_any {w : World} {r h : Nat} {bs : List Bd} {lo hi : Nat} {a : Option Addr} {cap : Nat} {kids : List TE} (hL : LevelAt w r bs) (hK : IsSK (IsS w h) w lo hi a kids) (hlen : kids.length ≤ maxLen) (hap : ∀ t ∈ bs, Plainly w t.b ∧ (t.hi ≤ lo ∨ hi ≤ t.lo) ∧ t.lo ≤ t.b ∧ t.b < t.hi) :
    Calls Try.prog 88 #[.map (some r), .slice a kids.length cap, .int .i64 1] w fun e w' => e = .returned (.tuple #[]) ∧ ∃ ex : List Bd, LevelAt w' r (bs ++ ex) ∧ w.grownBy w' (some r) ∧ ((ex = [] ∧ kids = []) ∨ ∃ b, ex = [⟨b, cap, lo, hi, kids⟩] ∧ Good w h ⟨b, cap, lo, hi, kids⟩) := by
  by_cases h0 : kids = []
  · subst h0
    refine (add_none r a cap 1 w).mono ?_
    rintro e w' ⟨rfl, rfl⟩
    exact ⟨rfl, [], by rw [List.append_nil]; exact hL, gr_refl _ _, .inl ⟨rfl, rfl⟩⟩
  · rcases hK with e | ⟨b, rfl, hb⟩
    · exact absurd e h0
    have hg : Good w h ⟨b, cap, lo, hi, kids⟩ := ⟨h0, hlen, .inr ⟨b, rfl, hb⟩⟩
    obtain ⟨s1, s2, s3⟩ := hg.spot
    obtain ⟨es, h1, h2⟩ := hL
    have hpos : 1 ≤ kids.length := by
      cases kids with
      | nil => exact absurd rfl h0
      | cons _ _ => simp
    refine (add_new r b kids.length cap es.size es w h1 s3 (h2.noBed (fun t ht => ?_)) hpos hlen).mono ?_
    · obtain ⟨g1, g2, g3, g4⟩ := hap t ht
      exact ⟨by intro e; subst e; dsimp only at s1 s2; omega, g1⟩
    · rintro e w' ⟨rfl, h3, h4⟩
      exact ⟨rfl, [⟨b, cap, lo, hi, kids⟩], level_add (t := ⟨b, cap, lo, hi, kids⟩) h2 h3, h4, .inr ⟨b, rfl, hg⟩⟩
theorem ex_sums {ex : List Bd} {b cap lo hi : Nat} {kids : List TE} (h : (ex = [] ∧ kids = []) ∨ ex = [⟨b, cap, lo, hi, kids⟩]) : sumN ex = nodesL kids ∧ maxD ex = deepL kids := by
  rcases h with ⟨rfl, rfl⟩ | rfl
  · exact ⟨rfl, rfl⟩
  · simp [sumN, maxD]
theorem sumN_app (l r : List Bd) : sumN (l ++ r) = sumN l + sumN r := by unfold sumN; rw [List.map_append, List.sum_append]
theorem maxD_app : ∀ (l r : List Bd), maxD (l ++ r) = Nat.max (maxD l) (maxD r)
  | [], r => by simp [maxD]
  | s :: t, r => by rw [List.cons_append, maxD, maxD_app t r, maxD]; exact (Nat.max_assoc _ _ _).symm

theorem mem_at {bs : List Bd} {t : Bd} (h : t ∈ bs) : ∃ (i : Nat) (hi : i < bs.length), bs[i] = t := List.getElem_of_mem h
theorem same_or_apart {bs : List Bd} (h : bs.Pairwise Apart) {s t : Bd} (hs : s ∈ bs) (ht : t ∈ bs) : s = t ∨ Apart s t := by
  obtain ⟨i, hi, rfl⟩ := mem_at hs
  obtain ⟨j, hj, rfl⟩ := mem_at ht
  by_cases e : i = j
  · subst e; exact .inl rfl
  · exact .inr (apart_at h hi hj e)
theorem deepL_pos : ∀ l : List TE, l ≠ [] → 1 ≤ deepL l
  | [], h => absurd rfl h
  | e :: t, _ => by
    have := deep_pos e
    rw [deepL]
    exact Nat.le_trans this (Nat.le_max_left _ _)
theorem maxD_mem : ∀ {bs : List Bd} {t : Bd}, t ∈ bs → deepL t.kids ≤ maxD bs
  | s :: r, t, h => by
    rw [maxD]
    rcases List.mem_cons.1 h with rfl | h
    · exact Nat.le_max_left _ _
    · exact Nat.le_trans (maxD_mem h) (Nat.le_max_right _ _)
theorem mid_steps {w w2 : World} {n q r rb ri h' : Nat} {bs : List Bd} {ms : List Nat} {seen : Array Nat} {bs' : List Bd} {N c : Nat} (M : Mid w w2 n q r rb ri h' bs ms seen bs' N c) (hall : ∀ i, i < bs.length → i ∈ seen.toList) : (ms ++ (vsOf bs seen).map Bd.b).length = ms.length + bs.length := by
  have := (vsOf_all M.nodup M.bound hall).length_eq
  rw [List.length_append, List.length_map, this]
theorem mid_end {w w2 : World} {n q r rb ri h' : Nat} {bs : List Bd} {ms : List Nat} {seen : Array Nat} {bs' : List Bd} {N c T Dp D : Nat} (M : Mid w w2 n q r rb ri h' bs ms seen bs' N c) (hall : ∀ i, i < bs.length → i ∈ seen.toList)
    (hT : N + sumN bs = T) (hD : D + maxD bs = Dp) (hs : D ≤ ms.length + 1) (hpos : 1 ≤ bs.length) : Lev w w2 n q rb (h' - 1) bs' (ms ++ (vsOf bs seen).map Bd.b) T Dp c (D + 1) := by
  have hp := vsOf_all M.nodup M.bound hall
  have e1 := sumN_perm hp
  have e2 := sumC_perm hp
  have e3 := maxD_perm hp
  have hlen := mid_steps M hall
  have hc := M.count
  have hn := M.nodes
  have hd := M.deep
  have h1 : 1 ≤ maxD bs := by
    have hm : bs[0] ∈ bs := List.getElem_mem hpos
    exact Nat.le_trans (deepL_pos _ (M.forest.1 _ hm).1.1) (maxD_mem hm)
  have hd' : Nat.max 1 (maxD (vsOf bs seen)) = maxD bs := by rw [e3]; exact Nat.max_eq_right h1
  refine ⟨M.below, M.next, M.met, M.forest', fun p hp => ?_, by omega, by omega, by omega, M.q0, M.b0, M.dist.2.1⟩
  rw [List.mem_append] at hp
  rcases hp with hp | hp
  · obtain ⟨g1, g2, g3⟩ := M.out p hp
    refine ⟨g1, g2, fun t' ht' => ?_⟩
    obtain ⟨s, hs', i1, i2, i3⟩ := M.inside t' ht'
    rcases g3 s (vsOf_mem M.bound hs') with g | g
    · left; omega
    · right; omega
  · obtain ⟨u, hu, rfl⟩ := List.mem_map.1 hp
    have hub := vsOf_mem M.bound hu
    obtain ⟨f1, f2⟩ := M.forest.1 u hub
    obtain ⟨s1, s2, s3⟩ := f1.spot
    refine ⟨s3, by omega, fun t' ht' => ?_⟩
    obtain ⟨s, hs', i1, i2, i3⟩ := M.inside t' ht'
    have hsb := vsOf_mem M.bound hs'
    obtain ⟨x1, x2, _⟩ := (M.forest.1 s hsb).1.spot
    rcases same_or_apart M.forest.2 hub hsb with rfl | h | h
    · left; exact i1
    · left; omega
    · right; omega
/-- The kids of a list, each in its stretch. -/
structure Cut (w : World) (h : Nat) (t : Bd) (cut : Nat → Nat) : Prop where
  b0 : t.b < cut 0
  mono : ∀ j, j < t.kids.length → cut j ≤ cut (j + 1)
  hi : cut t.kids.length ≤ t.hi
  at_ : ∀ j (hj : j < t.kids.length), ∃ c0 c1 c2 c3 c4 : Value,
    w.cell? ⟨t.b, j * 5, none⟩ = some c0 ∧ w.cell? ⟨t.b, j * 5 + 1, none⟩ = some c1 ∧ w.cell? ⟨t.b, j * 5 + 2, none⟩ = some c2 ∧ w.cell? ⟨t.b, j * 5 + 3, none⟩ = some c3 ∧ w.cell? ⟨t.b, j * 5 + 4, none⟩ = some c4 ∧ IsS w h (cut j) (cut (j + 1)) (.agg #[c0, c1, c2, c3, c4]) t.kids[j]
theorem Good.cut {w : World} {h : Nat} {t : Bd} (g : Good w h t) : ∃ cut, Cut w h t cut := by
  rcases g.2.2 with e | ⟨b, h1, h0, hp, cut, h2, hm, h3, h4⟩
  · exact absurd e g.1
  · simp only [Option.some.injEq, Addr.mk.injEq, and_true] at h1
    subst h1
    exact ⟨cut, h2, hm, h3, h4⟩
theorem Cut.kept {w w' : World} {h n : Nat} {t : Bd} {cut : Nat → Nat} (c : Cut w h t cut) (hb : Below n w w') (hn : t.hi ≤ n) : Cut w' h t cut := by
  have hm := cut_mono c.mono
  have hbn : t.b < n := by have := hm 0 t.kids.length (Nat.zero_le _) (Nat.le_refl _); have := c.b0; have := c.hi; omega
  refine ⟨c.b0, c.mono, c.hi, fun j hj => ?_⟩
  obtain ⟨c0, c1, c2, c3, c4, d0, d1, d2, d3, d4, hr⟩ := c.at_ j hj
  have hc : ∀ o, w'.cell? ⟨t.b, o, none⟩ = w.cell? ⟨t.b, o, none⟩ := fun o => hb.cell (p := ⟨t.b, o, none⟩) hbn
  refine ⟨c0, c1, c2, c3, c4, (hc _).trans d0, (hc _).trans d1, (hc _).trans d2, (hc _).trans d3, (hc _).trans d4, IsS.same h _ _ _ _ _ _ (fun b _ h2 => hb.block b ?_) (Nat.le_refl _) (Nat.le_refl _) hr⟩
  have := hm (j + 1) t.kids.length (by omega) (Nat.le_refl _)
  have := c.hi
  omega
/-- What holds while the kids of a list are gone through. -/
structure Kid (w w3 : World) (n q r rb ri h' : Nat) (bs : List Bd) (ms : List Nat) (seen : Array Nat) (t : Bd) (cut : Nat → Nat) (j : Nat) (bs' : List Bd) (N c A : Nat) : Prop where
  below : Below w.heap.size w w3
  iter : IterAt w3 ri r (seen.push A) bs
  forest : Forest w3 n h' bs
  next : LevelAt w3 rb bs'
  forest' : Forest w3 n (h' - 1) bs'
  inside : ∀ t' ∈ bs', (∃ s ∈ vsOf bs seen, s.b < t'.lo ∧ s.lo ≤ t'.lo ∧ t'.hi ≤ s.hi) ∨ (t.b < t'.lo ∧ t.lo ≤ t'.lo ∧ t'.hi ≤ cut j)
  met : MetAt w3 q (ms ++ (vsOf bs seen).map Bd.b ++ [t.b])
  out : ∀ p ∈ ms, Plainly w3 p ∧ p < n ∧ ∀ t ∈ bs, p < t.lo ∨ t.hi ≤ p
  cuts : Cut w3 h' t cut
  count : c = N + sumC (vsOf bs seen) + j
  nodes : sumC (vsOf bs seen) + j + sumN bs' = sumN (vsOf bs seen) + nodesL (t.kids.take j)
  deep : Nat.max 1 (Nat.max (maxD (vsOf bs seen)) (deepL (t.kids.take j))) = 1 + maxD bs'
/-- Whatever is done to new blocks and to the map of the level below leaves all else. -/
theorem Kid.step {w w3 w4 : World} {n q r rb ri h' : Nat} {bs : List Bd} {ms : List Nat} {seen : Array Nat} {t : Bd} {cut : Nat → Nat} {j : Nat} {bs' : List Bd} {N c A : Nat} (K : Kid w w3 n q r rb ri h' bs ms seen t cut j bs' N c A) (hg : w3.grownBy w4 (some rb)) (hn : n ≤ w.heap.size) (h0 : w.heap.size ≤ rb) (hd : q ≠ rb ∧ r ≠ rb ∧ rb ≠ ri) (hth : t.hi ≤ n) (hmem : t ∈ bs) (hapt : ∀ s ∈ vsOf bs seen, s ∈ bs ∧ Apart s t)
    {kk : List TE} {ka kb : Int} {kn km : ByteArray} {ex : List Bd} {cap : Nat} (hj : j < t.kids.length) (hkid : t.kids[j] = .node ka kb kn km kk) (hl : LevelAt w4 rb (bs' ++ ex)) (hex : (ex = [] ∧ kk = []) ∨ ∃ b, ex = [⟨b, cap, cut j, cut (j + 1), kk⟩] ∧ Good w3 (h' - 1) ⟨b, cap, cut j, cut (j + 1), kk⟩) :
    Kid w w4 n q r rb ri h' bs ms seen t cut (j + 1) (bs' ++ ex) N (c + 1) A := by
  have hB3 := K.below
  have hs := hB3.size
  have hbn : Below n w3 w4 := (Below.refl n w3).grown hg (by omega) (fun k e => by simp at e; omega)
  have hlt := K.iter.lt
  have hm := cut_mono K.cuts.mono
  have hc1 := hm (j + 1) t.kids.length (by omega) (Nat.le_refl _)
  have hc2 := hm 0 j (Nat.zero_le _) (by omega)
  have hc3 := K.cuts.mono j hj
  have hc0 := K.cuts.b0
  have hch := K.cuts.hi
  have hspot := (K.forest.1 t hmem).1.spot
  have hsum : sumN ex = nodesL kk ∧ maxD ex = deepL kk := by
    rcases hex with h | ⟨b, h, _⟩
    · exact ex_sums (b := 0) (cap := 0) (lo := 0) (hi := 0) (.inl h)
    · exact ex_sums (.inr h)
  have hns := nodes_step t.kids j hj
  have hds := deep_step t.kids j hj
  rw [hkid, TE.nodes] at hns
  rw [hkid, TE.deep] at hds
  refine ⟨hB3.grown hg (by omega) (fun k e => by simp at e; omega), K.iter.kept (hg.block _ hlt.1 (by simp; exact hd.2.1)) (hg.block _ hlt.2.1 (by simp; exact fun e => hd.2.2 e.symm)), K.forest.kept hbn, hl, ?_, fun t' ht' => ?_, K.met.kept (hg.block _ K.met.lt (by simp; exact hd.1)), fun p hp => ?_, K.cuts.kept hbn hth, by have := K.count; omega, ?_, ?_⟩
  · refine ⟨fun t' ht' => ?_, ?_⟩
    · rw [List.mem_append] at ht'
      rcases ht' with ht' | ht'
      · exact (K.forest'.kept hbn).1 t' ht'
      · rcases hex with ⟨rfl, _⟩ | ⟨b, rfl, hg'⟩
        · simp at ht'
        · rw [List.mem_singleton] at ht'
          subst ht'
          exact ⟨hg'.same (fun b h1 h2 => hbn.block b (by dsimp only at h2; omega)), by dsimp only; omega⟩
    · rw [List.pairwise_append]
      refine ⟨K.forest'.2, ?_, fun s hs' t' ht' => ?_⟩
      · rcases hex with ⟨rfl, _⟩ | ⟨b, rfl, _⟩
        · exact List.Pairwise.nil
        · exact List.pairwise_singleton _ _
      · rcases hex with ⟨rfl, _⟩ | ⟨b, rfl, _⟩
        · simp at ht'
        · rw [List.mem_singleton] at ht'
          subst ht'
          show s.hi ≤ cut j ∨ cut (j + 1) ≤ s.lo
          rcases K.inside s hs' with ⟨u, hu, i1, i2, i3⟩ | ⟨i1, i2, i3⟩
          · rcases (hapt u hu).2 with h | h
            · left; omega
            · right; omega
          · left; exact i3
  · rw [List.mem_append] at ht'
    rcases ht' with ht' | ht'
    · rcases K.inside t' ht' with h | ⟨i1, i2, i3⟩
      · exact .inl h
      · exact .inr ⟨i1, i2, by omega⟩
    · rcases hex with ⟨rfl, _⟩ | ⟨b, rfl, _⟩
      · simp at ht'
      · rw [List.mem_singleton] at ht'
        subst ht'
        exact .inr ⟨by dsimp only; omega, by dsimp only; omega, by dsimp only; omega⟩
  · obtain ⟨g1, g2, g3⟩ := K.out p hp
    exact ⟨plain_mono g1 (hbn.block p g2), g2, g3⟩
  · have := K.nodes
    rw [sumN_app, hns, hsum.1]; omega
  · have h1 := K.deep
    rw [maxD_app, hds, hsum.2]
    have e : ∀ a b c d : Nat, Nat.max 1 (Nat.max a b) = 1 + c → Nat.max 1 (Nat.max a (Nat.max b (d + 1))) = 1 + Nat.max c d := fun a b c d h => by
      have h' : max 1 (max a b) = 1 + c := h
      show max 1 (max a (max b (d + 1))) = 1 + max c d
      omega
    exact e _ _ _ _ h1

theorem vs_apart {bs : List Bd} {seen : Array Nat} {i : Nat} {t : Bd} (hb : ∀ k ∈ seen.toList, k < bs.length) (hp : bs.Pairwise Apart) (hi : i < bs.length) (ht : bs[i] = t) (hns : i ∉ seen.toList) : ∀ s ∈ vsOf bs seen, s ∈ bs ∧ Apart s t := fun s hs => by
  refine ⟨vsOf_mem hb hs, ?_⟩
  unfold vsOf at hs
  obtain ⟨k, hk, rfl⟩ := List.mem_map.1 hs
  have hkl := hb k hk
  rw [List.getD_eq_getElem?_getD, List.getElem?_eq_getElem hkl, ← ht]
  exact apart_at hp hkl hi (fun e => hns (e ▸ hk))
theorem mid_kid {w wr W : World} {n q r rb ri h' : Nat} {bs : List Bd} {ms : List Nat} {seen : Array Nat} {bs' : List Bd} {N c i : Nat} {t : Bd} (M : Mid w wr n q r rb ri h' bs ms seen bs' N c) (hi : i < bs.length) (ht : bs[i] = t) (hns : i ∉ seen.toList) (hit : IterAt W ri r (seen.push i) bs) (hgr : wr.grownBy W (some ri)) (hn : n ≤ w.heap.size) (o1 o2 : Obj) :
    ∃ W3 cut, (Instr.mapUpdate 134 (.map (some q)) (bedV t.b t.kids.length) (.agg #[])).run Try.prog ((W.alloc o1).alloc o2) = .ok () W3 ∧ Kid w W3 n q r rb ri h' bs ms seen t cut 0 bs' N c i ∧ ((W.alloc o1).alloc o2).grownBy W3 (some q) := by
  have hB := M.below
  have hs := hB.size
  have hmem : t ∈ bs := ht ▸ List.getElem_mem hi
  have hg2 : wr.grownBy ((W.alloc o1).alloc o2) (some ri) := gr_trans hgr (gr_trans (World.grownBy_alloc _ _ _) (World.grownBy_alloc _ _ _))
  have i0 := M.i0
  have hbn : Below n wr ((W.alloc o1).alloc o2) := (Below.refl n wr).grown hg2 (by omega) (fun k e => by simp at e; omega)
  have hapt := vs_apart M.bound M.forest.2 hi ht hns
  obtain ⟨g, ghi⟩ := M.forest.1 t hmem
  obtain ⟨s1, s2, s3⟩ := g.spot
  have hsz2 := hg2.size
  have hWsz := hgr.size
  have hmet := M.met.kept (hg2.block q M.met.lt (by simp; exact M.dist.2.2.1))
  obtain ⟨W3, hput, hm3, hg3⟩ := met_put (n := t.kids.length) hmet (plain_mono s3 (hbn.block _ (by omega))) (fun p hp => by
    rw [List.mem_append] at hp
    rcases hp with hp | hp
    · obtain ⟨g1, g2, g3⟩ := M.out p hp
      refine ⟨?_, plain_mono g1 (hbn.block p g2)⟩
      have := g3 t hmem
      omega
    · obtain ⟨u, hu, rfl⟩ := List.mem_map.1 hp
      obtain ⟨h1, h2⟩ := hapt u hu
      obtain ⟨gu, guh⟩ := M.forest.1 u h1
      obtain ⟨u1, u2, u3⟩ := gu.spot
      refine ⟨?_, plain_mono u3 (hbn.block _ (by omega))⟩
      rcases h2 with h | h <;> omega)
  have hbn3 : Below n ((W.alloc o1).alloc o2) W3 := (Below.refl n _).grown hg3 (by omega) (fun k e => by have := M.q0; simp at e; omega)
  have hbn4 := hbn.trans hbn3
  obtain ⟨cut, hcut⟩ := g.cut
  have hlt := hit.lt
  have hbW : ∀ k, k < W.heap.size → ((W.alloc o1).alloc o2).heap[k]? = W.heap[k]? := fun k hk => (((Below.refl W.heap.size W).alloc (Nat.le_refl _) o1).alloc (by simp) o2).block k hk
  refine ⟨W3, cut, hput, ⟨?_, ?_, M.forest.kept hbn4, ?_, M.forest'.kept hbn4, fun t' ht' => .inl (M.inside t' ht'), hm3, fun p hp => ?_, hcut.kept hbn4 ghi, by have := M.count; omega, by have := M.nodes; simp [nodesL]; omega, ?_⟩, hg3⟩
  · exact (hB.grown hg2 hs (fun k e => by simp at e; omega)).grown hg3 (by omega) (fun k e => by have := M.q0; simp at e; omega)
  · exact hit.kept ((hg3.block r (by simp; omega) (by simp; exact fun e => M.dist.1 e.symm)).trans (hbW r hlt.1)) ((hg3.block ri (by simp; omega) (by simp; exact fun e => M.dist.2.2.1 e.symm)).trans (hbW ri hlt.2.1))
  · exact M.next.kept ((hg3.block rb (by have := M.next.lt; simp; omega) (by simp; exact fun e => M.dist.2.1 e.symm)).trans (hg2.block rb M.next.lt (by simp; exact M.dist.2.2.2.2)))
  · obtain ⟨g1, g2, g3⟩ := M.out p hp
    exact ⟨plain_mono g1 (hbn4.block p g2), g2, g3⟩
  · have := M.deep
    simp only [List.take_zero, deepL]
    rw [show Nat.max (maxD (vsOf bs seen)) 0 = maxD (vsOf bs seen) from Nat.max_eq_left (Nat.zero_le _)]
    exact this
theorem kid_mid {w wr w3 : World} {n q r rb ri h' : Nat} {bs : List Bd} {ms : List Nat} {seen : Array Nat} {bs' bs3 : List Bd} {N c c3 i : Nat} {t : Bd} {cut : Nat → Nat} (M : Mid w wr n q r rb ri h' bs ms seen bs' N c) (hi : i < bs.length) (ht : bs[i] = t) (hns : i ∉ seen.toList) (K : Kid w w3 n q r rb ri h' bs ms seen t cut t.kids.length bs3 N c3 i) : Mid w w3 n q r rb ri h' bs ms (seen.push i) bs3 N c3 := by
  have hmem : t ∈ bs := ht ▸ List.getElem_mem hi
  have hv : vsOf bs (seen.push i) = vsOf bs seen ++ [t] := by rw [vsOf_push, List.getD_eq_getElem?_getD, List.getElem?_eq_getElem hi, ht]; rfl
  have hna : nodesAt bs i = nodesL t.kids := by unfold nodesAt; rw [List.getD_eq_getElem?_getD, List.getElem?_eq_getElem hi, ht]; rfl
  have hkd := K.deep
  have hkn := K.nodes
  rw [List.take_of_length_le (Nat.le_refl _)] at hkd hkn
  refine ⟨K.below, K.iter, ?_, fun k hk => ?_, K.forest, K.next, K.forest', fun t' ht' => ?_, ?_, K.out, ?_, ?_, ?_, M.q0, M.r0, M.b0, M.i0, M.dist, ?_⟩
  · rw [Array.toList_push, List.nodup_append]
    exact ⟨M.nodup, by simp, fun a ha b hb => by rw [List.mem_singleton] at hb; subst hb; exact fun e => hns (e ▸ ha)⟩
  · rw [Array.toList_push, List.mem_append, List.mem_singleton] at hk
    rcases hk with hk | rfl
    · exact M.bound k hk
    · exact hi
  · rw [hv]
    rcases K.inside t' ht' with ⟨s, hs, h⟩ | ⟨h1, h2, h3⟩
    · exact ⟨s, List.mem_append_left _ hs, h⟩
    · exact ⟨t, List.mem_append_right _ (List.mem_singleton.2 rfl), h1, h2, by have := K.cuts.hi; omega⟩
  · rw [hv, List.map_append, ← List.append_assoc]; exact K.met
  · rw [hv, sumC_snoc]; have := K.count; omega
  · rw [hv, sumC_snoc, sumN_snoc]; omega
  · rw [hv, maxD_snoc]; exact hkd
  · have := M.rest
    rw [rest_push (nodesAt bs) bs.length seen i hi hns, hna] at this
    rw [hv, sumN_snoc]; omega
theorem kid_room {w wr w3 : World} {n q r rb ri h' : Nat} {bs : List Bd} {ms : List Nat} {seen : Array Nat} {bs' bs3 : List Bd} {N c c3 i j T : Nat} {t : Bd} {cut : Nat → Nat} (M : Mid w wr n q r rb ri h' bs ms seen bs' N c) (hi : i < bs.length) (ht : bs[i] = t) (hns : i ∉ seen.toList) (K : Kid w w3 n q r rb ri h' bs ms seen t cut j bs3 N c3 i) (hT : N + sumN bs = T) : c3 ≤ T := by
  have hna : nodesAt bs i = nodesL t.kids := by unfold nodesAt; rw [List.getD_eq_getElem?_getD, List.getElem?_eq_getElem hi, ht]; rfl
  have h1 := M.rest
  rw [rest_push (nodesAt bs) bs.length seen i hi hns, hna] at h1
  have h2 := K.nodes
  have h3 := K.count
  have h4 := nodes_le t.kids j
  omega

end Go.Proofs.Ytambkcchnmbaoaa
