/- Trees of expressions in memory, and the walk of spec.TreeNodes. Conditions: the tree can be read. -/
import Derived.Test.YtkiaidjkhhljhaaPlain
import Derived.Below
namespace Go.Proofs.Ytkiaidjkhhljhaa
open Go.RowKit Go.PlainAid

/-- An expression. -/
inductive TE where
  | node (kind num : Int) (name mod : ByteArray) (kids : List TE)
/-- A row of kids that can be read, all of it in the blocks from lo on and below n, each kid as R says. -/
def IsKids (R : Value → TE → Prop) (w : World) (lo n : Nat) (a : Option Addr) (kids : List TE) : Prop :=
  kids = [] ∨ ∃ b off : Nat, a = some ⟨b, off, none⟩ ∧ lo ≤ b ∧ b < n ∧ ∀ j (hj : j < kids.length), ∃ c0 c1 c2 c3 c4 : Value,
    w.cell? ⟨b, off + j * 5, none⟩ = some c0 ∧ w.cell? ⟨b, off + j * 5 + 1, none⟩ = some c1 ∧ w.cell? ⟨b, off + j * 5 + 2, none⟩ = some c2 ∧ w.cell? ⟨b, off + j * 5 + 3, none⟩ = some c3 ∧ w.cell? ⟨b, off + j * 5 + 4, none⟩ = some c4 ∧ R (.agg #[c0, c1, c2, c3, c4]) kids[j]
/-- A value that is an expression, at most h deep, all of it in the blocks from lo on and below n. -/
def IsE (w : World) (lo n : Nat) : Nat → Value → TE → Prop
  | 0, _, _ => False
  | h + 1, v, .node k m nm md kids => ∃ (a : Option Addr) (cap : Nat), v = .agg #[.int .i64 k, .int .i64 m, .string nm, .string md, .slice a kids.length cap] ∧ (nm.size ≤ maxLen ∧ md.size ≤ maxLen ∧ kids.length ≤ maxLen) ∧ IsKids (IsE w lo n h) w lo n a kids

mutual
def TE.nodes : TE → Nat
  | .node _ _ _ _ kids => 1 + nodesL kids
def nodesL : List TE → Nat
  | [] => 0
  | e :: t => e.nodes + nodesL t
end
mutual
def TE.deep : TE → Nat
  | .node _ _ _ _ kids => deepL kids + 1
def deepL : List TE → Nat
  | [] => 0
  | e :: t => Nat.max e.deep (deepL t)
end

/-- The blocks from lo on and below n are as they were. -/
def Same (lo n : Nat) (w w' : World) : Prop := ∀ b, lo ≤ b → b < n → w'.heap[b]? = w.heap[b]?
theorem Below.same {n lo : Nat} {w w' : World} (h : Below n w w') : Same lo n w w' := fun b _ hb => h.block b hb
theorem Same.trans {lo n : Nat} {w w' w'' : World} (h : Same lo n w w') (k : Same lo n w' w'') : Same lo n w w'' := fun b h1 h2 => (k b h1 h2).trans (h b h1 h2)
theorem IsKids.mono {R R' : Value → TE → Prop} {w w' : World} {lo n lo' n' : Nat} {a : Option Addr} {kids : List TE} (h : IsKids R w lo n a kids) (hR : ∀ v e, R v e → R' v e) (hs : Same lo n w w') (hl : lo' ≤ lo) (hn : n ≤ n') : IsKids R' w' lo' n' a kids := by
  rcases h with h | ⟨b, off, h1, h0, h2, h3⟩
  · exact .inl h
  · refine .inr ⟨b, off, h1, by omega, by omega, fun j hj => ?_⟩
    obtain ⟨c0, c1, c2, c3, c4, d0, d1, d2, d3, d4, hr⟩ := h3 j hj
    have hc : ∀ o, w'.cell? ⟨b, o, none⟩ = w.cell? ⟨b, o, none⟩ := fun o => World.cell?_of_block (w := w) (hs b h0 h2)
    exact ⟨c0, c1, c2, c3, c4, (hc _).trans d0, (hc _).trans d1, (hc _).trans d2, (hc _).trans d3, (hc _).trans d4, hR _ _ hr⟩
theorem IsE.same {w w' : World} {lo n lo' n' : Nat} (hs : Same lo n w w') (hl : lo' ≤ lo) (hn : n ≤ n') : ∀ (h : Nat) (v : Value) (e : TE), IsE w lo n h v e → IsE w' lo' n' h v e
  | 0, _, _, hE => hE.elim
  | h + 1, v, .node k q nm md kids, hE => by
    obtain ⟨a, cap, rfl, hz, hk⟩ := hE
    exact ⟨a, cap, rfl, hz, hk.mono (IsE.same hs hl hn h) hs hl hn⟩
theorem IsE.kept {w w' : World} {lo n m : Nat} (hb : Below n w w') (hnm : n ≤ m) (h : Nat) (v : Value) (e : TE) (hE : IsE w lo n h v e) : IsE w' lo m h v e := IsE.same (Below.same hb) (Nat.le_refl _) hnm h v e hE
theorem IsKids.kept {h : Nat} {w w' : World} {lo n m : Nat} {a : Option Addr} {kids : List TE} (hk : IsKids (IsE w lo n h) w lo n a kids) (hb : Below n w w') (hnm : n ≤ m) : IsKids (IsE w' lo m h) w' lo m a kids :=
  hk.mono (IsE.kept hb hnm h) (Below.same hb) (Nat.le_refl _) hnm
theorem nodesL_append : ∀ (l r : List TE), nodesL (l ++ r) = nodesL l + nodesL r
  | [], r => by simp [nodesL]
  | e :: t, r => by rw [List.cons_append, nodesL, nodesL, nodesL_append t r]; omega
theorem deepL_append : ∀ (l r : List TE), deepL (l ++ r) = Nat.max (deepL l) (deepL r)
  | [], r => by simp [deepL]
  | e :: t, r => by rw [List.cons_append, deepL, deepL, deepL_append t r]; exact (Nat.max_assoc _ _ _).symm
theorem nodes_step (kids : List TE) (k : Nat) (h : k < kids.length) : nodesL (kids.take (k + 1)) = nodesL (kids.take k) + kids[k].nodes := by
  rw [List.take_succ_eq_append_getElem h, nodesL_append]; simp [nodesL]
theorem deep_step (kids : List TE) (k : Nat) (h : k < kids.length) : deepL (kids.take (k + 1)) = Nat.max (deepL (kids.take k)) kids[k].deep := by
  rw [List.take_succ_eq_append_getElem h, deepL_append]; simp [deepL]
theorem nodes_le (kids : List TE) (k : Nat) : nodesL (kids.take k) ≤ nodesL kids := by
  have := nodesL_append (kids.take k) (kids.drop k)
  rw [List.take_append_drop] at this
  omega
mutual
theorem deep_le : ∀ e : TE, e.deep ≤ e.nodes
  | .node _ _ _ _ kids => by
    have := deepL_le kids
    rw [TE.deep, TE.nodes]; omega
theorem deepL_le : ∀ l : List TE, deepL l ≤ nodesL l
  | [] => Nat.le_refl _
  | e :: t => by
    have h1 := deep_le e
    have h2 := deepL_le t
    rw [deepL, nodesL]
    exact Nat.max_le.2 ⟨by omega, by omega⟩
end
mutual
theorem nodes_pos : ∀ e : TE, 1 ≤ e.nodes
  | .node _ _ _ _ kids => by rw [TE.nodes]; omega
theorem len_le : ∀ l : List TE, l.length ≤ nodesL l
  | [] => Nat.le_refl _
  | e :: t => by
    have h1 := nodes_pos e
    have h2 := len_le t
    rw [List.length_cons, nodesL]; omega
end

end Go.Proofs.Ytkiaidjkhhljhaa
