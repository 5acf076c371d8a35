/- Stacks of pairs of lists: what is still to be compared. No conditions. -/
import Derived.Test.YtambkcchnmbaoaaRf
import Derived.Test.YtambkcchnmbaoaaRe
import Derived.Test.YtambkcchnmbaoaaSa
namespace Go.Proofs.Ytambkcchnmbaoaa
open Go.RowKit Go.PlainAid

def TE.kids : TE → List TE
  | .node _ _ _ _ ks => ks
/-- Do the kids of each two agree? -/
def kidsB : List TE → List TE → Bool
  | [], [] => true
  | x :: t, y :: r => sameL x.kids y.kids && kidsB t r
  | [], _ :: _ => false
  | _ :: _, [] => false
theorem same_parts (x y : TE) : x.same y = (x.parts y && sameL x.kids y.kids) := by
  obtain ⟨k, m, nm, md, ks⟩ := x
  obtain ⟨k', m', nm', md', ks'⟩ := y
  rw [TE.same, TE.parts, TE.kids, TE.kids]
theorem sameL_parts : ∀ l r : List TE, sameL l r = (partsL l r && kidsB l r)
  | [], [] => by simp [sameL, partsL, kidsB]
  | x :: t, y :: r => by
    rw [sameL, partsL, kidsB, same_parts, sameL_parts t r]
    cases x.parts y <;> cases sameL x.kids y.kids <;> cases partsL t r <;> cases kidsB t r <;> rfl
  | [], _ :: _ => by simp [sameL, partsL]
  | _ :: _, [] => by simp [sameL, partsL]
theorem kidsB_at (l r : List TE) (k : Nat) (h : k < l.length) (h' : k < r.length) : kidsB (l.drop k) (r.drop k) = (sameL l[k].kids r[k].kids && kidsB (l.drop (k + 1)) (r.drop (k + 1))) := by
  rw [List.drop_eq_getElem_cons h, List.drop_eq_getElem_cons h', kidsB]
theorem nodesL_at (l : List TE) (k : Nat) (h : k < l.length) : nodesL (l.drop k) = 1 + nodesL l[k].kids + nodesL (l.drop (k + 1)) := by
  rw [List.drop_eq_getElem_cons h, nodesL]
  cases l[k] with
  | node a b c d e => rw [TE.nodes, TE.kids]

/-- As IsSK, but the row's own block may lie behind its kids. -/
def IsSW (w : World) (h lo n : Nat) (a : Option Addr) (kids : List TE) : Prop :=
  kids = [] ∨ ∃ b : Nat, a = some ⟨b, 0, none⟩ ∧ lo ≤ b ∧ b < n ∧ Plainly w b ∧ ∃ cut : Nat → Nat, lo ≤ cut 0 ∧ (b < cut 0 ∨ cut kids.length ≤ b) ∧ (∀ j, j < kids.length → cut j ≤ cut (j + 1)) ∧ cut kids.length ≤ n ∧ ∀ j (hj : j < kids.length), ∃ c0 c1 c2 c3 c4 : Value,
    w.cell? ⟨b, j * 5, none⟩ = some c0 ∧ w.cell? ⟨b, j * 5 + 1, none⟩ = some c1 ∧ w.cell? ⟨b, j * 5 + 2, none⟩ = some c2 ∧ w.cell? ⟨b, j * 5 + 3, none⟩ = some c3 ∧ w.cell? ⟨b, j * 5 + 4, none⟩ = some c4 ∧ IsS w h (cut j) (cut (j + 1)) (.agg #[c0, c1, c2, c3, c4]) kids[j]
theorem IsSK.toW {w : World} {h lo n : Nat} {a : Option Addr} {kids : List TE} (hk : IsSK (IsS w h) w lo n a kids) : IsSW w h lo n a kids := by
  rcases hk with e | ⟨b, h1, h0, hp, cut, h2, hm, h3, h4⟩
  · exact .inl e
  · have hc := cut_mono hm 0 kids.length (Nat.zero_le _) (Nat.le_refl _)
    exact .inr ⟨b, h1, h0, by omega, hp, cut, by omega, .inl h2, hm, h3, h4⟩
theorem IsSW.kids {w : World} {h lo hi : Nat} {a : Option Addr} {ks : List TE} (hk : IsSW w h lo hi a ks) (hh : hi ≤ w.heap.size) : IsKids (IsE w lo w.heap.size h) w lo w.heap.size a ks := by
  rcases hk with e | ⟨b, h1, h0, hb, hp, cut, h2, _, hm, h3, h4⟩
  · exact .inl e
  · have hm' := cut_mono hm
    refine .inr ⟨b, 0, h1, h0, by omega, fun j hj => ?_⟩
    obtain ⟨c0, c1, c2, c3, c4, d0, d1, d2, d3, d4, hr⟩ := h4 j hj
    rw [Nat.zero_add]
    refine ⟨c0, c1, c2, c3, c4, d0, d1, d2, d3, d4, IsE.same (fun _ _ _ => rfl) ?_ ?_ h _ _ (IsS.toE h _ _ _ _ hr)⟩
    · have := hm' 0 j (Nat.zero_le _) (by omega); omega
    · have := hm' (j + 1) ks.length (by omega) (Nat.le_refl _); omega

/-- Two lists that are to be compared, and the stretch of blocks in which all of the first lies. -/
structure Pt where
  a : Option Addr
  cap : Nat
  lo : Nat
  hi : Nat
  h : Nat
  ks : List TE
  a' : Option Addr
  cap' : Nat
  h' : Nat
  ks' : List TE
def GoodP (w : World) (lo' : Nat) (p : Pt) : Prop := IsSW w p.h p.lo p.hi p.a p.ks ∧ p.hi ≤ w.heap.size ∧ p.ks.length ≤ maxLen ∧ IsKids (IsE w lo' w.heap.size p.h') w lo' w.heap.size p.a' p.ks'
def flatP : List Pt → List Value
  | [] => []
  | p :: t => .slice p.a p.ks.length p.cap :: .slice p.a' p.ks'.length p.cap' :: flatP t
theorem flatP_app : ∀ l r : List Pt, flatP (l ++ r) = flatP l ++ flatP r
  | [], r => rfl
  | p :: t, r => by rw [List.cons_append, flatP, flatP_app t r, flatP]; rfl
theorem flatP_len : ∀ l : List Pt, (flatP l).length = l.length * 2
  | [] => rfl
  | p :: t => by rw [flatP, List.length_cons, List.length_cons, flatP_len t, List.length_cons]; omega
def allS : List Pt → Bool
  | [] => true
  | p :: t => sameL p.ks p.ks' && allS t
theorem allS_snoc : ∀ (l : List Pt) (p : Pt), allS (l ++ [p]) = (allS l && sameL p.ks p.ks')
  | [], p => by simp [allS]
  | q :: t, p => by rw [List.cons_append, allS, allS_snoc t p, allS, Bool.and_assoc]
def sumP : List Pt → Nat
  | [] => 0
  | p :: t => 1 + nodesL p.ks + sumP t
theorem sumP_snoc : ∀ (l : List Pt) (p : Pt), sumP (l ++ [p]) = sumP l + (1 + nodesL p.ks)
  | [], p => by simp [sumP]
  | q :: t, p => by rw [List.cons_append, sumP, sumP_snoc t p, sumP]; omega
theorem len_sumP : ∀ l : List Pt, l.length ≤ sumP l
  | [] => Nat.le_refl _
  | p :: t => by rw [List.length_cons, sumP]; have := len_sumP t; omega
def ApartP (s t : Pt) : Prop := s.hi ≤ t.lo ∨ t.hi ≤ s.lo
/-- The stack's pairs lie apart, and none of them where one has been met. -/
def Fit (w : World) (lo' : Nat) (ps : List Pt) (ms : List Nat) : Prop := (∀ p ∈ ps, GoodP w lo' p) ∧ ps.Pairwise ApartP ∧ ∀ m ∈ ms, Plainly w m ∧ ∀ p ∈ ps, m < p.lo ∨ p.hi ≤ m
theorem fit_pop {w : World} {lo' : Nat} {ps : List Pt} {p : Pt} {ms : List Nat} (F : Fit w lo' (ps ++ [p]) ms) : Fit w lo' ps ms :=
  ⟨fun q hq => F.1 q (List.mem_append_left _ hq), (List.pairwise_append.1 F.2.1).1, fun m hm => ⟨(F.2.2 m hm).1, fun q hq => (F.2.2 m hm).2 q (List.mem_append_left _ hq)⟩⟩
theorem fit_push {w : World} {lo' : Nat} {ps : List Pt} {x : Pt} {ms : List Nat} (F : Fit w lo' ps ms) (g : GoodP w lo' x) (ha : ∀ s ∈ ps, ApartP s x) (hm : ∀ m ∈ ms, m < x.lo ∨ x.hi ≤ m) : Fit w lo' (ps ++ [x]) ms := by
  refine ⟨fun q hq => ?_, List.pairwise_append.2 ⟨F.2.1, List.pairwise_singleton _ _, fun s hs t ht => ?_⟩, fun m hmm => ⟨(F.2.2 m hmm).1, fun q hq => ?_⟩⟩
  · rcases List.mem_append.1 hq with h | h
    · exact F.1 q h
    · rw [List.mem_singleton] at h; subst h; exact g
  · rw [List.mem_singleton] at ht; subst ht; exact ha s hs
  · rcases List.mem_append.1 hq with h | h
    · exact (F.2.2 m hmm).2 q h
    · rw [List.mem_singleton] at h; subst h; exact hm m hmm
/-- What is known of the last pair, where it is not empty. -/
structure Top (w : World) (lo' : Nat) (ps : List Pt) (ms : List Nat) (p : Pt) (b : Nat) (cut : Nat → Nat) : Prop where
  at_ : p.a = some ⟨b, 0, none⟩
  plain : Plainly w b
  new : ∀ m ∈ ms, b ≠ m ∧ Plainly w m
  fit : Fit w lo' ps (ms ++ [b])
  mono : ∀ j, j < p.ks.length → cut j ≤ cut (j + 1)
  last : cut p.ks.length ≤ w.heap.size
  away : ∀ s ∈ ps, s.hi ≤ cut 0 ∨ cut p.ks.length ≤ s.lo
  off : ∀ m ∈ ms ++ [b], m < cut 0 ∨ cut p.ks.length ≤ m
  kid : ∀ j (hj : j < p.ks.length), ∃ c0 c1 c2 c3 c4 : Value, w.cell? ⟨b, j * 5, none⟩ = some c0 ∧ w.cell? ⟨b, j * 5 + 1, none⟩ = some c1 ∧ w.cell? ⟨b, j * 5 + 2, none⟩ = some c2 ∧ w.cell? ⟨b, j * 5 + 3, none⟩ = some c3 ∧ w.cell? ⟨b, j * 5 + 4, none⟩ = some c4 ∧ IsS w p.h (cut j) (cut (j + 1)) (.agg #[c0, c1, c2, c3, c4]) p.ks[j]
theorem fit_top {w : World} {lo' : Nat} {ps : List Pt} {p : Pt} {ms : List Nat} (F : Fit w lo' (ps ++ [p]) ms) (hne : p.ks ≠ []) : ∃ b cut, Top w lo' ps ms p b cut := by
  have hp := F.1 p (List.mem_append_right _ (List.mem_singleton.2 rfl))
  have hap : ∀ s ∈ ps, ApartP s p := fun s hs => (List.pairwise_append.1 F.2.1).2.2 s hs p (List.mem_singleton.2 rfl)
  have hout : ∀ m ∈ ms, m < p.lo ∨ p.hi ≤ m := fun m hm => (F.2.2 m hm).2 p (List.mem_append_right _ (List.mem_singleton.2 rfl))
  rcases hp.1 with e | ⟨b, h1, h0, hbh, hpl, cut, h2, hbc, hm, h3, h4⟩
  · exact absurd e hne
  have hc := cut_mono hm 0 p.ks.length (Nat.zero_le _) (Nat.le_refl _)
  have hhi := hp.2.1
  refine ⟨b, cut, h1, hpl, fun m hmm => ⟨fun e => ?_, (F.2.2 m hmm).1⟩, ⟨(fit_pop F).1, (fit_pop F).2.1, fun m hmm => ?_⟩, hm, by omega, fun s hs => ?_, fun m hmm => ?_, h4⟩
  · subst e; rcases hout b hmm with h | h <;> omega
  · rcases List.mem_append.1 hmm with h | h
    · exact (fit_pop F).2.2 m h
    · rw [List.mem_singleton] at h; subst h
      exact ⟨hpl, fun s hs => by rcases hap s hs with h | h <;> omega⟩
  · rcases hap s hs with h | h
    · left; omega
    · right; omega
  · rcases List.mem_append.1 hmm with h | h
    · rcases hout m h with h | h
      · left; omega
      · right; omega
    · rw [List.mem_singleton] at h; subst h; exact hbc
/-- While the kids of the last pair are laid on the stack. -/
def Laid (w : World) (lo' : Nat) (ps : List Pt) (ms : List Nat) (cut : Nat → Nat) (j : Nat) (ex : List Pt) : Prop := Fit w lo' (ps ++ ex) ms ∧ (∀ x ∈ ex, x.hi ≤ cut j) ∧ ex.length = j
theorem laid_start {w : World} {lo' : Nat} {ps : List Pt} {ms : List Nat} {p : Pt} {b : Nat} {cut : Nat → Nat} (T : Top w lo' ps ms p b cut) : Laid w lo' ps (ms ++ [b]) cut 0 [] :=
  ⟨by rw [List.append_nil]; exact T.fit, fun x hx => by simp at hx, rfl⟩
theorem laid_next {w : World} {lo' : Nat} {ps : List Pt} {ms : List Nat} {p : Pt} {b : Nat} {cut : Nat → Nat} {j : Nat} {ex : List Pt} {x : Pt} (T : Top w lo' ps ms p b cut) (L : Laid w lo' ps (ms ++ [b]) cut j ex) (hj : j < p.ks.length) (hlo : x.lo = cut j) (hhi : x.hi = cut (j + 1)) (g : GoodP w lo' x) : Laid w lo' ps (ms ++ [b]) cut (j + 1) (ex ++ [x]) := by
  have hm := cut_mono T.mono
  have h0 := hm 0 j (Nat.zero_le _) (by omega)
  have h1 := hm (j + 1) p.ks.length (by omega) (Nat.le_refl _)
  have h2 := T.mono j hj
  refine ⟨?_, fun y hy => ?_, by rw [List.length_append, L.2.2]; rfl⟩
  · rw [← List.append_assoc]
    refine fit_push L.1 g (fun s hs => ?_) (fun m hmm => ?_)
    · rcases List.mem_append.1 hs with h | h
      · rcases T.away s h with h | h
        · left; omega
        · right; omega
      · left; have := L.2.1 s h; omega
    · rcases T.off m hmm with h | h
      · left; omega
      · right; omega
  · rcases List.mem_append.1 hy with h | h
    · have := L.2.1 y h; omega
    · rw [List.mem_singleton] at h; subst h; omega
theorem sameL_at0 (l r : List TE) : sameL l r = sameL (l.drop 0) (r.drop 0) := rfl
end Go.Proofs.Ytambkcchnmbaoaa
