/- Trees of expressions in memory, and the walk of spec.TreeNodes. Conditions: the tree can be read. -/
import Derived.Test.YtgmohnbjfemebaaGreatDoorPlain
import Derived.Below
namespace Go.Proofs.YtgmohnbjfemebaaGreatDoor
open Go.RowKit Go.PlainAid

/-- An expression. -/
inductive TE where
  | node (kind num : Int) (name mod : ByteArray) (kids : List TE)
/-- A row of kids that can be read, all of it in the blocks from lo on and below n, each kid as R says. -/
def IsKids (R : Value → TE → Prop) (w : World) (lo n : Nat) (a : Option Addr) (kids : List TE) : Prop :=
  kids = [] ∨ ∃ b off : Nat, a = some ⟨b, off, none⟩ ∧ lo ≤ b ∧ b < n ∧ ∀ j (hj : j < kids.length), ∃ c0 c1 c2 c3 c4 : Value,
    w.cell? ⟨b, off + j * 5, none⟩ = some c0 ∧ w.cell? ⟨b, off + j * 5 + 1, none⟩ = some c1 ∧ w.cell? ⟨b, off + j * 5 + 2, none⟩ = some c2 ∧ w.cell? ⟨b, off + j * 5 + 3, none⟩ = some c3 ∧ w.cell? ⟨b, off + j * 5 + 4, none⟩ = some c4 ∧ R (.agg #[c0, c1, c2, c3, c4]) kids[j]
/-- A value that is an expression, at most h deep, all of it in the blocks from lo on and below n. -/
def IsE (w : World) (lo n : Nat) : Nat → Value → TE → Prop
  | 0, _, _ => False
  | h + 1, v, .node k m nm md kids => ∃ (a : Option Addr) (cap : Nat), v = .agg #[.int .i64 k, .int .i64 m, .string nm, .string md, .slice a kids.length cap] ∧ (nm.size ≤ maxLen ∧ md.size ≤ maxLen ∧ kids.length ≤ maxLen) ∧ IsKids (IsE w lo n h) w lo n a kids

mutual
def TE.nodes : TE → Nat
  | .node _ _ _ _ kids => 1 + nodesL kids
def nodesL : List TE → Nat
  | [] => 0
  | e :: t => e.nodes + nodesL t
end
mutual
def TE.deep : TE → Nat
  | .node _ _ _ _ kids => deepL kids + 1
def deepL : List TE → Nat
  | [] => 0
  | e :: t => Nat.max e.deep (deepL t)
end

/-- The blocks from lo on and below n are as they were. -/
def Same (lo n : Nat) (w w' : World) : Prop := ∀ b, lo ≤ b → b < n → w'.heap[b]? = w.heap[b]?
theorem Below.same {n lo : Nat} {w w' : World} (h : Below n w w') : Same lo n w w' := fun b _ hb => h.block b hb
theorem Same.trans {lo n : Nat} {w w' w'' : World} (h : Same lo n w w') (k : Same lo n w' w'') : Same lo n w w'' := fun b h1 h2 => (k b h1 h2).trans (h b h1 h2)
theorem IsKids.mono {R R' : Value → TE → Prop} {w w' : World} {lo n lo' n' : Nat} {a : Option Addr} {kids : List TE} (h : IsKids R w lo n a kids) (hR : ∀ v e, R v e → R' v e) (hs : Same lo n w w') (hl : lo' ≤ lo) (hn : n ≤ n') : IsKids R' w' lo' n' a kids := by
  rcases h with h | ⟨b, off, h1, h0, h2, h3⟩
  · exact .inl h
  · refine .inr ⟨b, off, h1, by omega, by omega, fun j hj => ?_⟩
    obtain ⟨c0, c1, c2, c3, c4, d0, d1, d2, d3, d4, hr⟩ := h3 j hj
    have hc : ∀ o, w'.cell? ⟨b, o, none⟩ = w.cell? ⟨b, o, none⟩ := fun o => World.cell?_of_block (w := w) (hs b h0 h2)
    exact ⟨c0, c1, c2, c3, c4, (hc _).trans d0, (hc _).trans d1, (hc _).trans d2, (hc _).trans d3, (hc _).trans d4, hR _ _ hr⟩
theorem IsE.same {w w' : World} {lo n lo' n' : Nat} (hs : Same lo n w w') (hl : lo' ≤ lo) (hn : n ≤ n') : ∀ (h : Nat) (v : Value) (e : TE), IsE w lo n h v e → IsE w' lo' n' h v e
  | 0, _, _, hE => hE.elim
  | h + 1, v, .node k q nm md kids, hE => by
    obtain ⟨a, cap, rfl, hz, hk⟩ := hE
    exact ⟨a, cap, rfl, hz, hk.mono (IsE.same hs hl hn h) hs hl hn⟩
theorem IsE.kept {w w' : World} {lo n m : Nat} (hb : Below n w w') (hnm : n ≤ m) (h : Nat) (v : Value) (e : TE) (hE : IsE w lo n h v e) : IsE w' lo m h v e := IsE.same (Below.same hb) (Nat.le_refl _) hnm h v e hE
theorem IsKids.kept {h : Nat} {w w' : World} {lo n m : Nat} {a : Option Addr} {kids : List TE} (hk : IsKids (IsE w lo n h) w lo n a kids) (hb : Below n w w') (hnm : n ≤ m) : IsKids (IsE w' lo m h) w' lo m a kids :=
  hk.mono (IsE.kept hb hnm h) (Below.same hb) (Nat.le_refl _) hnm
theorem nodesL_append : ∀ (l r : List TE), nodesL (l ++ r) = nodesL l + nodesL r
  | [], r => by simp [nodesL]
  | e :: t, r => by rw [List.cons_append, nodesL, nodesL, nodesL_append t r]; omega
theorem deepL_append : ∀ (l r : List TE), deepL (l ++ r) = Nat.max (deepL l) (deepL r)
  | [], r => by simp [deepL]
  | e :: t, r => by rw [List.cons_append, deepL, deepL, deepL_append t r]; exact (Nat.max_assoc _ _ _).symm
theorem nodes_step (kids : List TE) (k : Nat) (h : k < kids.length) : nodesL (kids.take (k + 1)) = nodesL (kids.take k) + kids[k].nodes := by
  rw [List.take_succ_eq_append_getElem h, nodesL_append]; simp [nodesL]
theorem deep_step (kids : List TE) (k : Nat) (h : k < kids.length) : deepL (kids.take (k + 1)) = Nat.max (deepL (kids.take k)) kids[k].deep := by
  rw [List.take_succ_eq_append_getElem h, deepL_append]; simp [deepL]
theorem nodes_le (kids : List TE) (k : Nat) : nodesL (kids.take k) ≤ nodesL kids := by
  have := nodesL_append (kids.take k) (kids.drop k)
  rw [List.take_append_drop] at this
  omega
mutual
theorem deep_le : ∀ e : TE, e.deep ≤ e.nodes
  | .node _ _ _ _ kids => by
    have := deepL_le kids
    rw [TE.deep, TE.nodes]; omega
theorem deepL_le : ∀ l : List TE, deepL l ≤ nodesL l
  | [] => Nat.le_refl _
  | e :: t => by
    have h1 := deep_le e
    have h2 := deepL_le t
    rw [deepL, nodesL]
    exact Nat.max_le.2 ⟨by omega, by omega⟩
end
mutual
theorem nodes_pos : ∀ e : TE, 1 ≤ e.nodes
  | .node _ _ _ _ kids => by rw [TE.nodes]; omega
theorem len_le : ∀ l : List TE, l.length ≤ nodesL l
  | [] => Nat.le_refl _
  | e :: t => by
    have h1 := nodes_pos e
    have h2 := len_le t
    rw [List.length_cons, nodesL]; omega
end

set_option maxHeartbeats 1000000 in
theorem TreeNodesS_any (lo : Nat) : ∀ (h : Nat) (v : Value) (e : TE) (w : World), IsE w lo w.heap.size h v e → e.nodes ≤ 1048577 →
    Calls Tryz.prog 83 #[v] w fun r w' => r = .returned (.tuple #[.int .i64 e.nodes, .int .i64 e.deep]) ∧ Below w.heap.size w w' := by
  intro h
  induction h with
  | zero => intro v e w hE; exact hE.elim
  | succ h ih =>
    intro v e w hE hn
    obtain ⟨kd, m, nm, md, kids⟩ := e
    obtain ⟨a, cap, rfl, _, hk⟩ := hE
    rw [TE.nodes] at hn
    have hlen := len_le kids
    have hL : kids.length ≤ 1048576 := by omega
    have HK := hide hk
    have HN := hide hn
    have IH := hide ih
    clear ih
    clear hk hn hlen
    go_enter Tryz.func83, Tryz.ntmps83
    go_wp2
    go_loopw [4, 5, 6] (fun n d i wr => ∃ k N D : Nat, k ≤ kids.length ∧ i = .int .i64 k ∧ n = .int .i64 N ∧ d = .int .i64 D ∧ N ≤ 1048577 ∧ D ≤ N ∧ Hid (1 + nodesL (kids.take k) = N) ∧ Hid (deepL (kids.take k) = D) ∧ wr.cell? ⟨w.heap.size, 4, none⟩ = some (.slice a kids.length cap) ∧ Hid (w.heap.size < wr.heap.size) ∧ Hid (Below w.heap.size w wr)) (fun _ _ i _ => kids.length - (intOf i).toNat)
    case atStart => exact ⟨0, 1, 0, Nat.zero_le _, rfl, rfl, rfl, by omega, by omega, hide rfl, hide rfl, by simp, hide (by simp), hide ((Below.refl _ _).alloc (Nat.le_refl _) _)⟩
    case round =>
      obtain ⟨k, N, D, hk, rfl, rfl, rfl, hN, hD, HS, HDP, hc, HZ, HB⟩ := hrel
      by_cases hp : k < kids.length
      · rcases (unhide HK).kept (unhide HB) (unhide HB).size with hq | ⟨b, off, rfl, hbl, hbn, hcs⟩
        · rw [hq] at hp; simp at hp
        obtain ⟨c0, c1, c2, c3, c4, d0, d1, d2, d3, d4, hr⟩ := hcs k hp
        have hs1 := nodes_step kids k hp
        have hs2 := deep_step kids k hp
        have hs3 := nodes_le kids (k + 1)
        have hs4 := deep_le kids[k]
        generalize kids[k] = e at hr hs1 hs2 hs4
        have HR := hide hr
        have HX1 := hide hs1
        have HX2 := hide hs2
        have hen : e.nodes ≤ 1048577 ∧ N + e.nodes ≤ 1048577 := by
          have h1 := unhide HN
          have h2 := unhide HS
          omega
        clear hcs hr hs1 hs2 hs3
        go_wp2_with fail
        refine (unhide IH _ e wr (unhide HR) hen.1).mono ?_
        rintro r w2 ⟨rfl, hb2⟩
        have hc2 : w2.cell? ⟨w.heap.size, 4, none⟩ = some (.slice (some ⟨b, off, none⟩) kids.length cap) := (hb2.cell (p := ⟨w.heap.size, 4, none⟩) (unhide HZ)).trans hc
        have HB2 := hide ((unhide HB).trans (hb2.mono (unhide HB).size))
        have HZ2 : Hid (w.heap.size < w2.heap.size) := hide (by have := unhide HZ; have := hb2.size; omega)
        obtain ⟨E, hE⟩ : ∃ E, e.nodes = E := ⟨_, rfl⟩
        obtain ⟨F, hF⟩ : ∃ F, e.deep = F := ⟨_, rfl⟩
        rw [hE, hF] at hs4 ⊢
        rw [hE] at hen
        have HE := hide hE
        have HF := hide hF
        clear hb2 hc HB HZ d0 d1 d2 d3 d4 HR hE hF
        by_cases hgt : D < F
        · go_wp2
          go_roundw
          case rel => exact ⟨k + 1, N + E, F, by omega, by go_num, by go_num, rfl, by omega, by omega, hide (by rw [unhide HX1, unhide HE]; have := unhide HS; omega), hide (by rw [unhide HX2, unhide HF, unhide HDP]; exact Nat.max_eq_right (by omega)), hc2, HZ2, HB2⟩
          case measure => simp [intOf] <;> omega
        · go_wp2
          go_roundw
          case rel => exact ⟨k + 1, N + E, D, by omega, by go_num, by go_num, rfl, by omega, by omega, hide (by rw [unhide HX1, unhide HE]; have := unhide HS; omega), hide (by rw [unhide HX2, unhide HF, unhide HDP]; exact Nat.max_eq_left (by omega)), hc2, HZ2, HB2⟩
          case measure => simp [intOf] <;> omega
      · have HE : Hid (kids.take k = kids) := hide (List.take_of_length_le (by omega))
        rw [unhide HE] at HS HDP
        go_wp2
        go_ret2
        refine ⟨?_, unhide HB⟩
        rw [TE.nodes, TE.deep, unhide HS, unhide HDP]
        rfl
end Go.Proofs.YtgmohnbjfemebaaGreatDoor
