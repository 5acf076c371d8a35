/- Maps that are keyed by pairs of beds: a look-up that finds nothing, a store of a new key. No conditions. -/
import Derived.Test.YtambkcchnmbaoaaSc
namespace Go.Proofs.Ytambkcchnmbaoaa
open Go.RowKit Go.PlainAid
open Go.ChangeMaps (setBlock)

abbrev pairV (b n : Nat) (p : Option Addr) (n' : Nat) : Value := .agg #[.pointer (some ⟨b, 0, none⟩), .int .i64 (n : Int), .pointer p, .int .i64 (n' : Int)]
set_option maxRecDepth 100000 in
theorem pair_ne (w : World) (b n : Nat) (p : Option Addr) (n' : Nat) (c m : Nat) (q : Option Addr) (m' d : Nat) (h : b ≠ c) (hb : Plainly w b) (hc : Plainly w c) : (Op.equalIn (d + 3) 107 (pairV b n p n') (pairV c m q m')).run Try.prog w = .ok false w := by
  have h1 : (Op.equalIn (d + 2) 106 (.agg #[.pointer (some ⟨b, 0, none⟩), .int .i64 (n : Int)]) (.agg #[.pointer (some ⟨c, 0, none⟩), .int .i64 (m : Int)])).run Try.prog w = .ok false w := bed_ne w b n c m d h hb hc
  have hp : ∀ (x y z u : Value), (part 106 #[x, y, z, u] 0).run Try.prog w = .ok (.agg #[x, y]) w := fun x y z u => by kernel_rfl
  have hs : (sizeOf 106).run Try.prog w = .ok 2 w := by kernel_rfl
  have hu := run_underlying (w := w) Try.underlying107
  generalize hE : Op.equalIn (d + 2) = E at h1
  rw [Op.equalIn, hE]
  simp only [Sem.run_bind, hu, Result.andThen_ok, hs]
  simp only [Std.Legacy.Range.forIn_eq_forIn_range', Std.Legacy.Range.size, Nat.sub_zero, Nat.add_one_sub_one, Nat.div_one, List.range', List.forIn_cons, Sem.run_bind, Nat.zero_mul, hp, Result.andThen_ok, h1, Bool.not_false, if_true, Sem.run_pure]
/-- Entries none of which is at the pair's key. -/
def NoPair (w : World) (b : Nat) (es : List MapEntry) : Prop := ∀ x ∈ es, ∃ b' n' p m, x.key = pairV b' n' p m ∧ b ≠ b' ∧ Plainly w b'
theorem findP_miss (w : World) (b n : Nat) (p : Option Addr) (n' : Nat) (hb : Plainly w b) : ∀ (es : List MapEntry) (i : Nat), NoPair w b es → (Instr.findAsking 107 (pairV b n p n') es i).run Try.prog w = .ok none w
  | [], i, _ => rfl
  | x :: t, i, h => by
    obtain ⟨b', m', q, m, hk, hne, hp⟩ := h x (List.mem_cons_self ..)
    have h1 : (Op.equal 107 (pairV b n p n') x.key).run Try.prog w = .ok false w := by
      rw [hk]; exact pair_ne w b n p n' b' m' q m 9997 hne hb hp
    have ih := findP_miss w b n p n' hb t (i + 1) (fun y hy => h y (List.mem_cons_of_mem _ hy))
    simp only [Instr.findAsking, Sem.run_bind, h1, Result.andThen_ok, Bool.false_eq_true, if_false, ih]
theorem findKeyP_miss (w : World) (b n : Nat) (p : Option Addr) (n' : Nat) (hb : Plainly w b) (es : List MapEntry) (h : NoPair w b es) : (Instr.findKey 107 (pairV b n p n') es).run Try.prog w = .ok none w := by
  cases es with
  | nil => simp [Instr.findKey, Instr.findNow, run_underlying Try.underlying107]
  | cons x t =>
    have := findP_miss w b n p n' hb (x :: t) 0 h
    simp [Instr.findKey, Instr.findNow, Instr.sameNow, run_underlying Try.underlying107, this]
theorem check_bedP (w : World) (p : Option Addr) (n : Int) (d : Nat) (em : Bool) : (Instr.checkKey em (d + 2) 106 (.agg #[.pointer p, .int .i64 n])).run Try.prog w = .ok () w := by
  simp [Instr.checkKey, run_underlying Try.underlying106, run_underlying Try.underlying104, run_underlying Try.underlying3, go_sem]
theorem check_pair (w : World) (b n : Nat) (p : Option Addr) (n' d : Nat) (em : Bool) : (Instr.checkKey em (d + 3) 107 (pairV b n p n')).run Try.prog w = .ok () w := by
  have h1 := check_bedP w (some ⟨b, 0, none⟩) (n : Int) d em
  have h2 := check_bedP w p (n' : Int) d em
  have hp : ∀ (x y z u : Value), (part 106 #[x, y, z, u] 0).run Try.prog w = .ok (.agg #[x, y]) w := fun x y z u => by kernel_rfl
  have hp2 : ∀ (x y z u : Value), (part 106 #[x, y, z, u] 2).run Try.prog w = .ok (.agg #[z, u]) w := fun x y z u => by kernel_rfl
  have hs : (sizeOf 106).run Try.prog w = .ok 2 w := by kernel_rfl
  have hu := run_underlying (w := w) Try.underlying107
  generalize hE : Instr.checkKey em (d + 2) = E at h1 h2
  rw [Instr.checkKey, hE]
  simp only [Sem.run_bind, hu, Result.andThen_ok]
  simp only [Std.Legacy.Range.forIn_eq_forIn_range', Std.Legacy.Range.size, Nat.sub_zero, Nat.add_one_sub_one, Nat.div_one, List.range', List.forIn_cons, List.forIn_nil, Sem.run_bind, hs, Nat.zero_mul, Nat.zero_add, Nat.one_mul, hp, hp2, Result.andThen_ok, h1, h2, Sem.run_pure]
theorem lookP_miss (w : World) (r b n : Nat) (p : Option Addr) (n' c : Nat) (es : Array MapEntry) (hr : w.heap[r]? = some (.map es c)) (hb : Plainly w b) (h : NoPair w b es.toList) :
    (Instr.lookup 99 (.map (some r)) (pairV b n p n') true).run Try.prog w = .ok (.tuple #[.agg #[], .bool false]) w := by
  simp [Instr.lookup, run_underlying Try.underlying99, getObj, Sem.run, hr, check_pair w b n p n' 9997, findKeyP_miss w b n p n' hb es.toList h, Result.andThen]
theorem putP_miss (w : World) (r b n : Nat) (p : Option Addr) (n' c : Nat) (v : Value) (es : Array MapEntry) (hr : w.heap[r]? = some (.map es c)) (hb : Plainly w b) (h : NoPair w b es.toList) :
    (Instr.mapUpdate 99 (.map (some r)) (pairV b n p n') v).run Try.prog w = .ok () (setBlock w r (.map (es.push ⟨pairV b n p n', v, c⟩) (c + 1))) := by
  simp [Instr.mapUpdate, run_underlying Try.underlying99, getObj, Sem.run, hr, check_pair w b n p n' 9997, findKeyP_miss w b n p n' hb es.toList h, setObj_map hr, Result.andThen]
/-- The beds of the first list that have been met. -/
def MetP (w : World) (q : Nat) (ms : List Nat) : Prop := ∃ (es : Array MapEntry) (c : Nat), w.heap[q]? = some (.map es c) ∧ ∀ x ∈ es.toList, ∃ b n p m, x.key = pairV b n p m ∧ b ∈ ms
theorem MetP.kept {w w' : World} {q : Nat} {ms : List Nat} (h : MetP w q ms) (he : w'.heap[q]? = w.heap[q]?) : MetP w' q ms := by
  obtain ⟨es, c, h1, h2⟩ := h
  exact ⟨es, c, he.trans h1, h2⟩
theorem MetP.lt {w : World} {q : Nat} {ms : List Nat} (h : MetP w q ms) : q < w.heap.size := by
  obtain ⟨es, c, h1, _⟩ := h
  exact (Array.getElem?_eq_some_iff.1 h1).1
theorem metP_look {w : World} {q b n : Nat} {p : Option Addr} {n' : Nat} {ms : List Nat} (h : MetP w q ms) (hb : Plainly w b) (hm : ∀ x ∈ ms, b ≠ x ∧ Plainly w x) : (Instr.lookup 99 (.map (some q)) (pairV b n p n') true).run Try.prog w = .ok (.tuple #[.agg #[], .bool false]) w := by
  obtain ⟨es, c, h1, h3⟩ := h
  exact lookP_miss w q b n p n' c es h1 hb (fun x hx => by
    obtain ⟨b', m', q', m, hk, hm'⟩ := h3 x hx
    exact ⟨b', m', q', m, hk, (hm b' hm').1, (hm b' hm').2⟩)
theorem metP_put {w : World} {q b n : Nat} {p : Option Addr} {n' : Nat} {ms : List Nat} (h : MetP w q ms) (hb : Plainly w b) (hm : ∀ x ∈ ms, b ≠ x ∧ Plainly w x) : ∃ W, (Instr.mapUpdate 99 (.map (some q)) (pairV b n p n') (.agg #[])).run Try.prog w = .ok () W ∧ MetP W q (ms ++ [b]) ∧ w.grownBy W (some q) := by
  obtain ⟨es, c, h1, h3⟩ := h
  refine ⟨_, putP_miss w q b n p n' c (.agg #[]) es h1 hb (fun x hx => ?_), ⟨_, _, blk_at _ (Array.getElem?_eq_some_iff.1 h1).1, fun x hx => ?_⟩, gr_blk _ (gr_refl _ _)⟩
  · obtain ⟨b', m', q', m, hk, hm'⟩ := h3 x hx
    exact ⟨b', m', q', m, hk, (hm b' hm').1, (hm b' hm').2⟩
  · rw [Array.toList_push, List.mem_append] at hx
    rcases hx with hx | hx
    · obtain ⟨b', m', q', m, hk, hm'⟩ := h3 x hx
      exact ⟨b', m', q', m, hk, List.mem_append_left _ hm'⟩
    · rw [List.mem_singleton] at hx
      subst hx
      exact ⟨b, n, p, n', rfl, List.mem_append_right _ (List.mem_singleton.2 rfl)⟩
end Go.Proofs.Ytambkcchnmbaoaa
