/- Lines that are held against one another: what they are, when two are equal. No conditions. The keys of a map in order: the library's contracts laid at this program. No conditions. Tables of lines by their names, and their lines in order: the walk of told. Conditions: the table holds lines under their names. The walk of told. Conditions: the table holds at most eight lines, each under its name. The walk of impl.faceLineOf. Conditions: the signature can be read, and has at most four parameters. -/
import Derived.Test.YtffabnmgcicpiaaGreatG2
import Derived.Laws.StructEq
import Derived.Laws.Tables
import Derived.Laws.Cover2
import Derived.KernelRfl
import Derived.Shelf.SlIter.Nil
import Derived.Shelf.SortM.Plain
import Derived.Shelf.SortM.SortNone
import Derived.Ground.GgzProg
import Derived.Ground.SlgmProg
import Derived.Test.YtffabnmgcicpiaaGreatRows
import Derived.Maps.OwnSet
import Derived.Maps.Ext
import Derived.Sort.KeysCollected
import Derived.Laws.IdiomCopy
namespace Go.Proofs.YtffabnmgcicpiaaGreat
open Go.RowKit Go.PlainAid

def ar (s : TS) (i : Nat) : Int := s.args.getD i 0
def key (s : TS) : List UInt8 := s.name.data.toList
def lineC (s : TS) : List Value := [.string s.name, .int .i64 (ar s 0), .int .i64 (ar s 1), .int .i64 (ar s 2), .int .i64 (ar s 3), .int .i64 s.type]
abbrev lineV (s : TS) : Value := .agg #[.string s.name, .int .i64 (ar s 0), .int .i64 (ar s 1), .int .i64 (ar s 2), .int .i64 (ar s 3), .int .i64 s.type]
def lineB (s t : TS) : Bool := s.name.toList == t.name.toList && (ar s 0 == ar t 0 && (ar s 1 == ar t 1 && (ar s 2 == ar t 2 && (ar s 3 == ar t 3 && s.type == t.type))))
def flatL (l : List TS) : List Value := l.flatMap lineC
theorem eqArr (a b c d a' b' c' d' : Int) (w : World) : (Op.equalIn 9999 46 (.agg #[.int .i64 a, .int .i64 b, .int .i64 c, .int .i64 d]) (.agg #[.int .i64 a', .int .i64 b', .int .i64 c', .int .i64 d'])).run Tryz.prog w = .ok (a == a' && (b == b' && (c == c' && d == d'))) w := by
  have u3 := Tryz.underlying3
  have a3 := Tryz.isAgg3
  have z3 := Tryz.sizeOf3
  rw [show (9999 : Nat) = 9998 + 1 from rfl, Op.equalIn]
  simp only [Sem.run_bind, run_underlying Tryz.underlying46, Result.andThen_ok]
  simp only [Std.Legacy.Range.forIn_eq_forIn_range', Std.Legacy.Range.size, Nat.sub_zero, Nat.add_sub_cancel, Nat.div_one, List.range'_succ, List.range'_zero, List.forIn_cons, List.forIn_nil]
  go_simp
  by_cases h1 : a = a' <;> by_cases h2 : b = b' <;> by_cases h3 : c = c' <;> by_cases h4 : d = d' <;> simp [h1, h2, h3, h4]
theorem eqLine (n m : ByteArray) (a b c d a' b' c' d' r r' : Int) (w : World) : (Op.equalIn 10000 48 (.agg #[.string n, .int .i64 a, .int .i64 b, .int .i64 c, .int .i64 d, .int .i64 r]) (.agg #[.string m, .int .i64 a', .int .i64 b', .int .i64 c', .int .i64 d', .int .i64 r'])).run Tryz.prog w = .ok (n.toList == m.toList && (a == a' && (b == b' && (c == c' && (d == d' && r == r'))))) w := by
  have u3 := Tryz.underlying3
  have a3 := Tryz.isAgg3
  have z3 := Tryz.sizeOf3
  have u9 := Tryz.underlying9
  have a9 := Tryz.isAgg9
  have z9 := Tryz.sizeOf9
  have hA := fun w => eqArr a b c d a' b' c' d' w
  have hS : Tryz.prog.underlying 48 = some (.struct (Tryz.prog.fieldsOf 48)) := by kernel_rfl
  rw [show (10000 : Nat) = 9999 + 1 from rfl, run_equalIn_agg w 9999 48 _ _ hS (by kernel_rfl)]
  simp only [Program.fieldsOf, Tryz.underlying48]
  go_simp
  by_cases h0 : n.toList = m.toList <;> by_cases h1 : a = a' <;> by_cases h2 : b = b' <;> by_cases h3 : c = c' <;> by_cases h4 : d = d' <;> by_cases h5 : r = r' <;> simp [h0, h1, h2, h3, h4, h5]
theorem flatL_at : ∀ (l : List TS) (j i : Nat) (hj : j < l.length), i < 6 → (flatL l)[j * 6 + i]? = (lineC l[j])[i]?
  | [], j, i, hj, _ => by simp at hj
  | s :: r, 0, i, hj, hi => by
    show (lineC s ++ flatL r)[0 * 6 + i]? = _
    rw [List.getElem?_append_left (by simp [lineC]; omega)]
    simp
  | s :: r, j + 1, i, hj, hi => by
    show (lineC s ++ flatL r)[(j + 1) * 6 + i]? = _
    rw [List.getElem?_append_right (by simp [lineC]; omega), show (j + 1) * 6 + i - (lineC s).length = j * 6 + i by simp [lineC]; omega, flatL_at r j i (by simpa using hj) hi]
    simp
theorem flatL_snoc (l : List TS) (s : TS) : flatL (l ++ [s]) = flatL l ++ lineC s := by simp [flatL]
theorem flatL_length (l : List TS) : (flatL l).length = l.length * 6 := by
  induction l with
  | nil => rfl
  | cons s r ih => show (lineC s ++ flatL r).length = _; rw [List.length_append, ih]; simp [lineC]; omega
/-- A row of lines that can be read. -/
def IsLines (w : World) (a : Option Addr) (l : List TS) : Prop :=
  l = [] ∨ ∃ g : Nat, a = some ⟨g, 0, none⟩ ∧ g < w.heap.size ∧ ∀ j (hj : j < l.length) i, i < 6 → w.cell? ⟨g, j * 6 + i, none⟩ = (lineC l[j])[i]?
theorem fown_slice {W : World} {m e size k : Nat} {v : Value} {xs : List Value} (h : W.ownsRow m e size v k xs) : ∃ ao cap, v = .slice ao k cap := by
  rcases h.2 with ⟨hv, h0⟩ | ⟨g, cap, cur, hv, _⟩
  · exact ⟨none, 0, by rw [hv, h0]⟩
  · exact ⟨_, _, hv⟩
theorem fown_kept {W W' : World} {base e s n : Nat} {v : Value} {xs : List Value} (h : W.ownsRow base e s v n xs) (hb : Below W.heap.size W W') : W'.ownsRow base e s v n xs := by
  refine ⟨h.1, ?_⟩
  rcases h.2 with hn | ⟨g, cap, cur, hv, hg, hgb, rest⟩
  · exact .inl hn
  · exact .inr ⟨g, cap, cur, hv, hg, (hb.block g (Array.getElem?_eq_some_iff.1 hgb).1).trans hgb, rest⟩
theorem fown_lines {W : World} {m e k : Nat} {v : Value} {l : List TS} (h : W.ownsRow m e 6 v k (flatL l)) : ∃ (a : Option Addr) (cap : Nat), v = .slice a l.length cap ∧ k = l.length ∧ IsLines W a l := by
  have hk : k = l.length := by have := h.1; rw [flatL_length] at this; omega
  subst hk
  rcases h.2 with ⟨hv, h0⟩ | ⟨g, cap, cur, hv, hg, hgb, hnc, _, hcs, htk⟩
  · exact ⟨none, 0, by rw [hv, h0], rfl, .inl (List.eq_nil_of_length_eq_zero h0)⟩
  · refine ⟨_, _, hv, rfl, .inr ⟨g, rfl, (Array.getElem?_eq_some_iff.1 hgb).1, fun j hj i hi => ?_⟩⟩
    have h1 : W.cell? ⟨g, j * 6 + i, none⟩ = cur[j * 6 + i]? := by simp [World.cell?, hgb]
    have hlt : j * 6 + i < l.length * 6 := by omega
    rw [h1, ← flatL_at l j i hj hi, ← htk, List.getElem?_take_of_lt hlt]
    simp
end Go.Proofs.YtffabnmgcicpiaaGreat

namespace Go.Proofs
open Go.RowKit Go.Maps Go.Sort Go.Shelf

shelf_lay_g SlLaysZ.n7 Ggz 7 at Tryz 31 as Tryz.keysF
shelf_lay_g SlLaysZ.n6 Ggz 6 at Tryz 30 as Tryz.sortedF
shelf_lay_g SlLaysM.n6 Slgm 6 at Tryz 47 as Tryz.sortF

theorem Tryz.sortsF (m : Nat) : AnyZ.SortsIn Tryz.prog Tryz.sortedF_ren Fence.wide m :=
  ⟨fun blk off cap ss W hH hblk hsz => callsIn_wide.2 (AnyM.slices_Sort_string Tryz.sortF blk off cap ss W hH hblk hsz),
   fun p cap W => callsIn_wide.2 (AnyM.slices_Sort_string_none Tryz.sortF p cap W)⟩

theorem Tryz.maps_Keys_F (mb : Option Nat) (W : World) : CallsIn Fence.wide 5 Tryz.prog 31 #[.map mb] W fun e w' => e = .returned (.func (.func 48) #[] #[.pointer (some ⟨W.heap.size, 0, none⟩)]) ∧ w' = W.alloc (.cells #[.map mb]  45) :=
  AnyZ.keys_in Tryz.keysF Fence.wide 5 trivial rfl mb W

set_option maxHeartbeats 1000000 in

theorem Tryz.slices_Sorted_keys_F {H : Type} (b nn : Nat) (D0 : DataW H) (R : Value → Option (DataW H × List MemPlace)) (w : World) (hown : w.ownsMap Tryz.prog 9 R b nn D0) (hmax : Maps.size D0 ≤ maxLen) (hbytes : Maps.size D0 * 16 ≤ 140737488355328) :
    CallsIn Fence.wide 5 Tryz.prog 30 #[.func (.func 48) #[] #[.pointer (some ⟨w.heap.size, 0, none⟩)]] (w.alloc (.cells #[.map (some b)]  45)) fun e w' => ∃ (v : Value) (ss : List (List UInt8)), e = .returned v ∧ ss.Perm (strKeys D0) ∧
      w'.ownsRow (w.alloc (.cells #[.map (some b)]  45)).heap.size 9 1 v ss.length ((ss.mergeSort (fun x y => decide (x ≤ y))).map encStr) ∧ (v = .slice none 0 0 ↔ ss = []) ∧ Below (w.alloc (.cells #[.map (some b)]  45)).heap.size (w.alloc (.cells #[.map (some b)]  45)) w' := by
  have hbl := hown.lt
  have hseq : SeqGives Fence.wide 2 Tryz.prog 48 #[.pointer (some ⟨w.heap.size, 0, none⟩)] encStr (fun ss => ss.Perm (strKeys D0)) (Maps.size D0) (w.alloc (.cells #[.map (some b)]  45)) :=
    AnyZ.keys_gives (ρ := Tryz.keysF_ren) { Tryz.keysF with } Fence.wide _ trivial rfl (by omega) w.heap.size b nn D0 _ (by simp) (by simp) (by
      obtain ⟨es, clock, hb, Ft, hs, hD⟩ := hown
      exact ⟨es, clock, (Below.heap_alloc _ _ b hbl).trans hb, Ft, hs, hD⟩)
  exact AnyZ.sorted_in Tryz.sortedF Fence.wide 5 trivial trivial trivial trivial rfl (by omega) (Tryz.sortsF _) (enters_of Tryz.func47 (by kernel_rfl) rfl) 48 #[.pointer (some ⟨w.heap.size, 0, none⟩)] trivial (enters_of Tryz.func48 (by kernel_rfl) rfl) _ _ hmax hbytes _ hseq

set_option maxHeartbeats 1000000 in

theorem Tryz.slices_Sorted_keys_nil_F (w : World) :
    CallsIn Fence.wide 5 Tryz.prog 30 #[.func (.func 48) #[] #[.pointer (some ⟨w.heap.size, 0, none⟩)]] (w.alloc (.cells #[.map none]  45)) fun e w' => ∃ (v : Value) (ss : List (List UInt8)), e = .returned v ∧ ss = [] ∧
      w'.ownsRow (w.alloc (.cells #[.map none]  45)).heap.size 9 1 v ss.length ((ss.mergeSort (fun x y => decide (x ≤ y))).map encStr) ∧ (v = .slice none 0 0 ↔ ss = []) ∧ Below (w.alloc (.cells #[.map none]  45)).heap.size (w.alloc (.cells #[.map none]  45)) w' := by
  have hseq : SeqGives Fence.wide 2 Tryz.prog 48 #[.pointer (some ⟨w.heap.size, 0, none⟩)] encStr (fun ss : List (List UInt8) => ss = []) 0 (w.alloc (.cells #[.map none]  45)) :=
    AnyZ.keys_gives_nil (ρ := Tryz.keysF_ren) { Tryz.keysF with } Fence.wide _ trivial rfl w.heap.size _ (by simp) (by simp)
  exact AnyZ.sorted_in Tryz.sortedF Fence.wide 5 trivial trivial trivial trivial rfl (by omega) (Tryz.sortsF _) (enters_of Tryz.func47 (by kernel_rfl) rfl) 48 #[.pointer (some ⟨w.heap.size, 0, none⟩)] trivial (enters_of Tryz.func48 (by kernel_rfl) rfl) _ 0 (Nat.zero_le _) (by omega) _ hseq

end Go.Proofs

namespace Go.Proofs.YtffabnmgcicpiaaGreat
open Go.RowKit Go.PlainAid

open Go.Maps Go.Sort
def RH (v : Value) : Option (DataW Value × List MemPlace) := some (.held v, [])
/-- The table D holds, under each name of the list, a line of the list with that name, and nothing else. -/
structure Tab (D : DataW Value) (l : List TS) : Prop where
  has : ∀ k, Maps.has D (.string k) = true ↔ ∃ s ∈ l, key s = k
  look : ∀ k, Maps.has D (.string k) = true → ∃ s ∈ l, key s = k ∧ ∀ z, D.atKey (.string k) z = .held (lineV s)
theorem keyLit (k : List UInt8) : WideAt.IsKeyLit (.string k) := by simp [WideAt.IsKeyLit]
theorem Tab.nil : Tab (.map []) [] := ⟨fun k => by simp [Maps.has], fun k h => by simp [Maps.has] at h⟩
theorem Tab.put {D : DataW Value} {l : List TS} (h : Tab D l) (hm : IsMap D) (s : TS) : Tab (D.put (.string (key s)) (.held (lineV s))) (l ++ [s]) := by
  have hne : ∀ k, key s ≠ k → (Lit.string k) ≠ (.string (key s)) := fun k hk e => hk (by simpa using e.symm)
  refine ⟨fun k => ?_, fun k hk => ?_⟩
  · by_cases e : key s = k
    · subst e
      rw [has_put_same hm (keyLit _)]
      exact ⟨fun _ => ⟨s, by simp, rfl⟩, fun _ => rfl⟩
    · rw [has_put_other (hne k e), h.has k]
      constructor
      · rintro ⟨t, ht, hk⟩; exact ⟨t, by simp [ht], hk⟩
      · rintro ⟨t, ht, hk⟩
        rcases List.mem_append.1 ht with h1 | h1
        · exact ⟨t, h1, hk⟩
        · simp at h1; subst h1; exact absurd hk e
  · by_cases e : key s = k
    · subst e
      exact ⟨s, by simp, rfl, fun z => atKey_put_same hm (keyLit _) _ _⟩
    · rw [has_put_other (hne k e)] at hk
      obtain ⟨t, ht, hk, hz⟩ := h.look k hk
      exact ⟨t, by simp [ht], hk, fun z => by rw [atKey_put_other (hne k e)]; exact hz z⟩
/-- Lines in ascending order. -/
def Asc (l : List TS) : Prop := (l.map key).Pairwise (fun a b => a < b)
theorem owns_below {P : Program} {k : TypeId} {R : Value → Option (DataW Value × List MemPlace)} {w w' : World} {b n m : Nat} {D : DataW Value} (h : w.ownsMap P k R b n D) (hb : Below m w w') (hm : b < m) : w'.ownsMap P k R b n D := by
  obtain ⟨es, clock, h1, h2⟩ := h
  exact ⟨es, clock, (hb.block b hm).trans h1, h2⟩
theorem keys_mem {P : Program} {k : TypeId} {R : Value → Option (DataW Value × List MemPlace)} {w : World} {b n : Nat} {D : DataW Value} (h : w.ownsMap P k R b n D) (hk : P.underlying k = some .string) (K : Keyed P k) :
    (∀ x, x ∈ strKeys D ↔ Maps.has D (.string x) = true) ∧ (strKeys D).Nodup ∧ ∀ x ∈ strKeys D, x.length ≤ maxLen := by
  have hle := strKeys_le h hk
  obtain ⟨es', hD', hpw⟩ := h.tidy K
  obtain ⟨es, rfl, hko⟩ := h.keysOf
  obtain rfl : es = es' := by simpa using hD'
  have hs : ∀ p ∈ es, ∃ x, p.1 = .string x := fun p hp => by
    obtain ⟨v, hv⟩ := hko p hp
    obtain ⟨x, _, hx, _⟩ := Maps.keyOf_str hk hv
    exact ⟨x, hx⟩
  refine ⟨fun x => ?_, ?_, hle⟩
  · rw [has_eq, List.any_eq_true]
    show x ∈ es.map (fun p => strOf p.1) ↔ _
    rw [List.mem_map]
    constructor
    · rintro ⟨p, hp, rfl⟩
      obtain ⟨a, ha⟩ := hs p hp
      exact ⟨p, hp, by rw [ha]; simp [Lit.sameKey, strOf]⟩
    · rintro ⟨p, hp, hx⟩
      obtain ⟨a, ha⟩ := hs p hp
      rw [ha] at hx
      exact ⟨p, hp, by rw [ha]; simpa [Lit.sameKey, strOf] using hx⟩
  · show (es.map fun p => strOf p.1).Nodup
    refine List.pairwise_map.2 (hpw.imp_of_mem fun {p q} hp hq hne e => hne ?_)
    obtain ⟨a, ha⟩ := hs p hp
    obtain ⟨b, hb⟩ := hs q hq
    rw [ha, hb] at e ⊢
    exact congrArg _ e
/-- The lines of a table, in order: what told hands back. -/
def Told (l ts : List TS) : Prop := Asc ts ∧ (∀ s ∈ ts, s ∈ l) ∧ ∀ s ∈ l, ∃ t ∈ ts, key t = key s
theorem told_plain {P : Program} {k : TypeId} {R : Value → Option (DataW Value × List MemPlace)} {w : World} {b n : Nat} {D : DataW Value} {l : List TS} (h : w.ownsMap P k R b n D) (hk : P.underlying k = some .string) (K : Keyed P k) (hT : Tab D l) {ss : List (List UInt8)} (hp : ss.Perm (strKeys D)) :
    ∃ ts : List TS, ts.map key = ss.mergeSort (fun x y => decide (x ≤ y)) ∧ Told l ts ∧ ∀ s ∈ ts, (∀ z, D.atKey (.string (key s)) z = .held (lineV s)) ∧ (key s).length ≤ maxLen := by
  obtain ⟨hm, hnd, hle⟩ := keys_mem h hk K
  have hperm : (ss.mergeSort (fun x y => decide (x ≤ y))).Perm (strKeys D) := (List.mergeSort_perm ss _).trans hp
  have hsort : (ss.mergeSort (fun x y => decide (x ≤ y))).Pairwise (fun a b => a < b) := by
    have tr : ∀ a b c : List UInt8, decide (a ≤ b) = true → decide (b ≤ c) = true → decide (a ≤ c) = true := fun a b c h1 h2 => by simp only [decide_eq_true_eq] at *; exact List.le_trans h1 h2
    have tl : ∀ a b : List UInt8, (decide (a ≤ b) || decide (b ≤ a)) = true := fun a b => by simp only [Bool.or_eq_true, decide_eq_true_eq]; exact List.le_total a b
    have h1 := List.pairwise_mergeSort tr tl ss
    have h2 : (ss.mergeSort (fun x y => decide (x ≤ y))).Nodup := hperm.nodup_iff.2 hnd
    refine (h1.and h2).imp ?_
    rintro a b ⟨h3, h4⟩
    simp only [decide_eq_true_eq] at h3
    by_cases h5 : a < b
    · exact h5
    · exact absurd (List.le_antisymm h3 (List.not_lt.1 h5)) h4
  generalize ss.mergeSort (fun x y => decide (x ≤ y)) = ks at hperm hsort
  have hall : ∀ k ∈ ks, ∃ s ∈ l, key s = k ∧ ∀ z, D.atKey (.string k) z = .held (lineV s) := fun k hk => hT.look k ((hm k).1 (hperm.mem_iff.1 hk))
  have hex : ∀ ks : List (List UInt8), (∀ k ∈ ks, ∃ s ∈ l, key s = k ∧ ∀ z, D.atKey (.string k) z = .held (lineV s)) → ∃ ts : List TS, ts.map key = ks ∧ ∀ s ∈ ts, s ∈ l ∧ ∀ z, D.atKey (.string (key s)) z = .held (lineV s) := by
    intro ks
    induction ks with
    | nil => exact fun _ => ⟨[], rfl, by simp⟩
    | cons a r ih =>
      intro hx
      obtain ⟨s, hs, he, hz⟩ := hx a (by simp)
      obtain ⟨ts, h1, h2⟩ := ih (fun k hk => hx k (by simp [hk]))
      refine ⟨s :: ts, by simp [h1, he], fun t ht => ?_⟩
      rcases List.mem_cons.1 ht with rfl | ht
      · exact ⟨hs, by rw [he]; exact hz⟩
      · exact h2 t ht
  obtain ⟨ts, h1, h2⟩ := hex ks hall
  refine ⟨ts, h1, ⟨by unfold Asc; rw [h1]; exact hsort, fun s hs => (h2 s hs).1, fun s hs => ?_⟩, fun s hs => ⟨(h2 s hs).2, hle _ (hperm.mem_iff.1 (by rw [← h1]; exact List.mem_map.2 ⟨s, hs, rfl⟩))⟩⟩
  have : key s ∈ ks := hperm.mem_iff.2 ((hm _).2 ((hT.has _).2 ⟨s, hs, rfl⟩))
  rw [← h1] at this
  obtain ⟨t, ht, he⟩ := List.mem_map.1 this
  exact ⟨t, ht, he⟩
end Go.Proofs.YtffabnmgcicpiaaGreat

namespace Go.Proofs.YtffabnmgcicpiaaGreat
open Go.RowKit Go.PlainAid

open Go.Maps Go.Sort
theorem infoLine : (Tryz.prog.info? 48).map (fun i => (i.zero, i.size, i.bytes)) = some (some (.agg #[.string ⟨#[]⟩, .int .i64 0, .int .i64 0, .int .i64 0, .int .i64 0, .int .i64 0]), 6, 56) := by kernel_rfl
theorem fown_base {W : World} {m m' e size k : Nat} {v : Value} {xs : List Value} (h : W.ownsRow m e size v k xs) (hm : m' ≤ m) : W.ownsRow m' e size v k xs := by
  refine ⟨h.1, ?_⟩
  rcases h.2 with hn | ⟨g, cap, cur, hv, hg, rest⟩
  · exact .inl hn
  · exact .inr ⟨g, cap, cur, hv, by omega, rest⟩
theorem fown_keys {W : World} {m e k : Nat} {v : Value} {ks : List (List UInt8)} (h : W.ownsRow m e 1 v k (ks.map encStr)) : ∃ (a : Option Addr) (cap : Nat), v = .slice a ks.length cap ∧ ∀ j (hj : j < ks.length), ∃ g, a = some ⟨g, 0, none⟩ ∧ g < W.heap.size ∧ W.cell? ⟨g, j, none⟩ = some (encStr ks[j]) := by
  have hk : k = ks.length := by have := h.1; simp at this; omega
  subst hk
  rcases h.2 with ⟨hv, h0⟩ | ⟨g, cap, cur, hv, hg, hgb, hnc, _, hcs, htk⟩
  · exact ⟨none, 0, by rw [hv, h0], fun j hj => by omega⟩
  · refine ⟨_, _, hv, fun j hj => ⟨g, rfl, (Array.getElem?_eq_some_iff.1 hgb).1, ?_⟩⟩
    have h1 : W.cell? ⟨g, j, none⟩ = cur[j]? := by simp [World.cell?, hgb]
    have h2 : (ks.map encStr)[j]? = some (encStr ks[j]) := by simp [hj]
    rw [h1, ← h2, ← htk, List.getElem?_take_of_lt (by omega)]
    simp
theorem news_line (W : World) (s : TS) (t : TypeId) : ∀ j u, (lineC s)[j]? = some u → (W.alloc (.cells (lineC s).toArray t)).cell? ((⟨W.heap.size, 0, none⟩ : Addr).add j) = some u := fun j u hu => by
  rw [Addr.add_lit, Nat.zero_add, alloc_cell]
  simpa using hu
theorem fown_next {W w2 : World} {base k : Nat} {v v2 : Value} {xs ys : List Value} {e size m : Nat} {o : Obj} (hrow : W.ownsRow base e size v k xs) (hW : base ≤ W.heap.size)
    (_ : w2.ownsRow base e size v2 m ys) (hgrow : (W.alloc o).grownBy w2 v.ownBlock) : Below base W w2 :=
  (((Below.refl base W).alloc hW _)).grown hgrow (by simp; omega) (fun k e => (hrow.lt k e).1)

set_option maxRecDepth 100000 in
set_option maxHeartbeats 2000000 in
theorem told_any (b n : Nat) (D : DataW Value) (l : List TS) (w : World) (hown : w.ownsMap Tryz.prog 9 RH b n D) (hn : n ≤ 8) (hT : Tab D l) :
    Calls Tryz.prog 14 #[.map (some b)] w fun r w' => ∃ (v : Value) (ts : List TS), r = .returned v ∧ w'.ownsRow w.heap.size 48 6 v ts.length (flatL ts) ∧ Told l ts ∧ Below w.heap.size w w' := by
  have K : Keyed Tryz.prog 9 := string_keyed Tryz.underlying9
  have hsz : Maps.size D ≤ 8 := Nat.le_trans hown.size_le hn
  obtain ⟨i0, hi, hz0, hz1, hz2⟩ := info_parts infoLine
  have hbl := hown.lt
  have HOWN := hide hown
  have HKEYS := hide (fun (mb : Option Nat) (W : World) => callsIn_wide.1 (Tryz.maps_Keys_F mb W))
  have HSORT := hide (callsIn_wide.1 (Tryz.slices_Sorted_keys_F b n D RH w hown (by unfold maxLen; omega) (by omega)))
  have HT := hide hT
  have HSZ : Hid (∀ ss : List (List UInt8), ss.Perm (strKeys D) → ss.length ≤ 8) := hide (fun ss hp => by
    rw [hp.length_eq]
    obtain ⟨es, hD⟩ := hown.isMap
    rw [hD] at hsz ⊢
    simpa [strKeys, Maps.size] using hsz)
  clear hown hT hsz
  go_enter Tryz.func14, Tryz.ntmps14
  go_wp2_with (first
    | (go_at_call 31; refine (unhide HKEYS _ _).mono ?_; rintro e w' ⟨rfl, rfl⟩)
    | (go_at_call 30; refine (unhide HSORT).mono ?_; rintro e w1 ⟨v, ss, rfl, hS, hrow, hnil, hb⟩; obtain ⟨ts, hts, hTold, hat⟩ := told_plain (unhide HOWN) Tryz.underlying9 K (unhide HT) hS; rw [← hts] at hrow; obtain ⟨ao, cap, rfl, hcell⟩ := fown_keys hrow; have hlen := unhide HSZ ss hS; have htl : (ts.map key).length = ts.length := List.length_map ..; have hln : ts.length ≤ 8 := (by rw [← htl, hts, List.length_mergeSort]; exact hlen); have hbw : Below w.heap.size w w1 := ((Below.refl _ w).alloc (Nat.le_refl _) _).trans (hb.mono (by simp)); have hsz1 : w.heap.size ≤ w1.heap.size := hbw.size; have HCELL := hide hcell; have HTOLD := hide hTold; have HAT := hide hat; have HBW := hide hbw; clear hS hrow hnil hb hts hcell hTold hat hlen hbw HKEYS HSORT HT HSZ; rw [htl]; clear htl))
  go_loopw [3, 5, 10] (fun o _ i wr => ∃ k : Nat, k ≤ ts.length ∧ i = .int .i64 k ∧ wr.ownsRow w1.heap.size 48 6 o k (flatL (ts.take k)) ∧ Hid (Below w1.heap.size w1 wr)) (fun _ _ i _ => ts.length - (intOf i).toNat)
  case atStart => exact ⟨0, Nat.zero_le _, rfl, World.ownsRow_nil _ _ _ _, hide (Below.refl _ _)⟩
  case round =>
    obtain ⟨k, hk, rfl, hrow, HB⟩ := hrel
    by_cases hp : k < ts.length
    · obtain ⟨g, rfl, hg, hc⟩ := unhide HCELL k (by simpa using hp)
      have hmem : ts[k]'hp ∈ ts := List.getElem_mem hp
      have hc2 : wr.cell? ⟨g, k, none⟩ = some (encStr (key (ts[k]'hp))) := ((unhide HB).cell (p := ⟨g, k, none⟩) hg).trans (by rw [hc]; simp)
      obtain ⟨hat, hkl⟩ := unhide HAT _ hmem
      have hown2 := owns_below (owns_below (unhide HOWN) (unhide HBW) hbl) (unhide HB) (by omega)
      have htk : ts.take (k + 1) = ts.take k ++ [ts[k]] := List.take_succ_eq_append_getElem hp
      obtain ⟨s, hs⟩ : ∃ s, ts[k]'hp = s := ⟨_, rfl⟩
      rw [hs] at hc2 hat hkl htk
      have hks : encStr (key s) = .string s.name := by simp [encStr, key]
      rw [hks] at hc2
      obtain ⟨v, ps, hrun, hv⟩ := hown2.lookup K Tryz.underlying45 (Tryz.zeroValue48 wr) (zd := .held (.agg #[.string ⟨#[]⟩, .int .i64 0, .int .i64 0, .int .i64 0, .int .i64 0, .int .i64 0])) (zp := []) rfl (key := .string s.name) (kl := .string (key s)) (WideMaps.keyOf_string_mk Tryz.underlying9 (by simpa [key] using hkl))
      rw [hat] at hv
      have hvv : v = lineV s := by simp [RH] at hv; exact hv.1
      subst hvv
      obtain ⟨vs, cp, rfl⟩ := fown_slice hrow
      have HTK := hide htk
      have HROW := hide hrow
      clear hc hmem hat hkl hown2 htk hs hks hv
      go_wp2_with (at_builtin; refine wpList_append_own _ rfl _ _ 54 rfl w1.heap.size 48 i0 (.agg #[.string ⟨#[]⟩, .int .i64 0, .int .i64 0, .int .i64 0, .int .i64 0, .int .i64 0]) 6 56 Tryz.underlying54 hi hz0 hz1 hz2 rfl (by decide) _ _ _ rfl (hrow.alloc _) ⟨wr.heap.size, 0, none⟩ 1 1 (lineC s) rfl rfl (news_line wr s 48) (by simp [lineC, Value.oneCell']) (by unfold maxLen; omega) (by omega) (by have := (unhide HB).size; simp; omega) ?_; intro v2 w2 hown2 hgrow2 _; have hbb := fown_next (unhide HROW) (unhide HB).size hown2 hgrow2; have HO := hide hown2; have HBB := hide hbb; clear hown2 hgrow2 hbb hrow hrun hc2)
      go_roundw
      case rel => exact ⟨k + 1, by omega, by go_num, by rw [unhide HTK, flatL_snoc]; exact unhide HO, hide ((unhide HB).trans (unhide HBB))⟩
      case measure => simp [intOf] <;> omega
    · have e : k = ts.length := by omega
      subst e
      rw [List.take_length] at hrow
      obtain ⟨vs, cp, rfl⟩ := fown_slice hrow
      have HROW := hide hrow
      clear hrow
      go_wp2
      go_ret
      exact ⟨_, ts, rfl, fown_base (unhide HROW) hsz1, unhide HTOLD, (unhide HBW).trans ((unhide HB).mono hsz1)⟩
end Go.Proofs.YtffabnmgcicpiaaGreat

namespace Go.Proofs.YtffabnmgcicpiaaGreat
open Go.RowKit Go.PlainAid

theorem row_cells {w : World} {lo n : Nat} {a : Option Addr} {x : Int} {zs : List Int} (h : IsInts w lo n a (x :: zs)) : ∃ b off : Nat, a = some ⟨b, off, none⟩ ∧ b < n ∧ ∀ j (hj : j < (x :: zs).length), w.cell? ⟨b, off + j, none⟩ = some (.int .i64 (x :: zs)[j]) := by
  rcases h with h | ⟨b, off, h1, h0, h2, h3⟩
  · cases h
  · exact ⟨b, off, h1, h2, h3⟩
theorem intsize : (Tryz.prog.info? 3).map (·.size) = some 1 := by kernel_rfl
theorem copyF (W : World) (B b off n ca : Nat) (cs : List Value) (hn : cs.length = n) (h4 : n ≤ 4) (hsrc : ∀ j v, cs[j]? = some v → W.cell? ⟨b, off + j, none⟩ = some v) (hB : ∀ j, j < 6 → (W.cell? ⟨B, j, none⟩).isSome = true) (hf : ∀ j, W.frozen? ⟨B, j, none⟩ = false) (h1 : ∀ v ∈ cs, v.oneCell' = true) :
    (Builtin.copy_ #[50, 50] 3 #[.slice (some ⟨B, 1, none⟩) 4 4, .slice (some ⟨b, off, none⟩) n ca]).run Tryz.prog W = .ok (goInt n) (W.setCells B 1 cs) := by
  have := run_copy_cells (P := Tryz.prog) W 50 50 3 3 B 1 4 4 ⟨b, off, none⟩ n ca cs Tryz.underlying50 intsize (by rw [hn]; exact (Nat.min_eq_left h4).symm) (fun j v hv => by rw [Addr.add_lit]; exact hsrc j v hv) (fun j hj => hB _ (by omega)) (fun j _ => hf _) h1
  rw [hn] at this
  exact this
theorem copyF0 (W : World) (d a : Option Addr) (ca : Nat) : (Builtin.copy_ #[50, 50] 3 #[.slice d 4 4, .slice a 0 ca]).run Tryz.prog W = .ok (goInt 0) W :=
  run_copy_none (P := Tryz.prog) W 50 50 3 3 d a 4 4 0 ca Tryz.underlying50 intsize rfl
theorem new_third (w : World) (o1 o2 : Obj) (C : Array Value) (t : TypeId) (i : Nat) : (((w.alloc o1).alloc o2).alloc (.cells C t)).drew.cell? ⟨w.heap.size + 1 + 1, i, none⟩ = C[i]? ∧ (((w.alloc o1).alloc o2).alloc (.cells C t)).drew.frozen? ⟨w.heap.size + 1 + 1, i, none⟩ = false := by
  have e : w.heap.size + 1 + 1 = ((w.alloc o1).alloc o2).heap.size := by rw [alloc_size, alloc_size]
  rw [e]
  exact ⟨alloc_cell _ _ _ _, new_frozen _ _ _ _⟩

set_option maxHeartbeats 1000000 in
theorem faceLineOf_0 (lo : Nat) (aa : Option Addr) (ca : Nat) (nm : ByteArray) (ty : Int) (w : World) (_ : IsInts w lo w.heap.size aa []) :
    Calls Tryz.prog 12 #[.agg #[.string nm, .slice aa 0 ca, .int .i64 ty]] w fun r w' => r = .returned (.agg #[.string nm, .int .i64 0, .int .i64 0, .int .i64 0, .int .i64 0, .int .i64 ty]) ∧ Below w.heap.size w w' := by
  have hcp : (Builtin.copy_ #[50, 50] 3 #[.slice (some ⟨w.heap.size + 1 + 1, 1, none⟩) 4 4, .slice aa 0 ca]).run Tryz.prog (((w.alloc (.cells #[.string nm, .slice aa 0 ca, .int .i64 ty] 52)).alloc (.cells #[.string ⟨#[]⟩, .int .i64 0, .int .i64 0, .int .i64 0, .int .i64 0, .int .i64 0] 48)).alloc (.cells #[.string nm, .int .i64 0, .int .i64 0, .int .i64 0, .int .i64 0, .int .i64 ty] 48)).drew = .ok (.int .i64 0) (((w.alloc (.cells #[.string nm, .slice aa 0 ca, .int .i64 ty] 52)).alloc (.cells #[.string ⟨#[]⟩, .int .i64 0, .int .i64 0, .int .i64 0, .int .i64 0, .int .i64 0] 48)).alloc (.cells #[.string nm, .int .i64 0, .int .i64 0, .int .i64 0, .int .i64 0, .int .i64 ty] 48)).drew := copyF0 _ _ _ _
  go_enter Tryz.func12, Tryz.ntmps12
  go_wp2
  go_region
  all_goals
    clear hcp
    go_wp2
    refine bodyPost_ret (v := .agg #[.string nm, .int .i64 0, .int .i64 0, .int .i64 0, .int .i64 0, .int .i64 ty]) (by simp [results, Tryz.results12, go_sem]) rfl ?_
    refine ⟨rfl, ?_⟩
    exact ((((Below.refl _ w).alloc (Nat.le_refl _) _).alloc (by simp) _).alloc (by simp; omega) _).drew

set_option maxHeartbeats 1000000 in
theorem faceLineOf_1 (lo : Nat) (aa : Option Addr) (ca : Nat) (nm : ByteArray) (x0 ty : Int) (w : World) (ha : IsInts w lo w.heap.size aa [x0]) :
    Calls Tryz.prog 12 #[.agg #[.string nm, .slice aa 1 ca, .int .i64 ty]] w fun r w' => r = .returned (.agg #[.string nm, .int .i64 x0, .int .i64 0, .int .i64 0, .int .i64 0, .int .i64 ty]) ∧ Below w.heap.size w w' := by
  obtain ⟨b, off, rfl, hb, hc⟩ := row_cells ha
  have c0 : w.cell? ⟨b, off, none⟩ = some (.int .i64 x0) := hc 0 (by simp)
  clear hc ha
  have hsrc : ∀ j v, ([.int .i64 x0] : List Value)[j]? = some v → (((w.alloc (.cells #[.string nm, .slice (some ⟨b, off, none⟩) 1 ca, .int .i64 ty] 52)).alloc (.cells #[.string ⟨#[]⟩, .int .i64 0, .int .i64 0, .int .i64 0, .int .i64 0, .int .i64 0] 48)).alloc (.cells #[.string nm, .int .i64 0, .int .i64 0, .int .i64 0, .int .i64 0, .int .i64 ty] 48)).drew.cell? ⟨b, off + j, none⟩ = some v := by
    intro j v hv
    have hbl : Below w.heap.size w (((w.alloc (.cells #[.string nm, .slice (some ⟨b, off, none⟩) 1 ca, .int .i64 ty] 52)).alloc (.cells #[.string ⟨#[]⟩, .int .i64 0, .int .i64 0, .int .i64 0, .int .i64 0, .int .i64 0] 48)).alloc (.cells #[.string nm, .int .i64 0, .int .i64 0, .int .i64 0, .int .i64 0, .int .i64 ty] 48)).drew := ((((Below.refl _ w).alloc (Nat.le_refl _) _).alloc (by simp) _).alloc (by simp; omega) _).drew
    rw [hbl.cell (p := ⟨b, off + j, none⟩) hb]
    have hj : j < 1 := by have := (List.getElem?_eq_some_iff.1 hv).1; simpa using this
    obtain rfl : j = 0 := by omega
    · have e : Value.int .i64 x0 = v := by simpa using hv
      rw [← e]; exact c0
  have hdst : ∀ j, j < 6 → ((((w.alloc (.cells #[.string nm, .slice (some ⟨b, off, none⟩) 1 ca, .int .i64 ty] 52)).alloc (.cells #[.string ⟨#[]⟩, .int .i64 0, .int .i64 0, .int .i64 0, .int .i64 0, .int .i64 0] 48)).alloc (.cells #[.string nm, .int .i64 0, .int .i64 0, .int .i64 0, .int .i64 0, .int .i64 ty] 48)).drew.cell? ⟨w.heap.size + 1 + 1, j, none⟩).isSome = true := by
    intro j hj
    rw [(new_third w _ _ _ _ j).1]
    obtain rfl | rfl | rfl | rfl | rfl | rfl : j = 0 ∨ j = 1 ∨ j = 2 ∨ j = 3 ∨ j = 4 ∨ j = 5 := by omega
    all_goals rfl
  have hcp : (Builtin.copy_ #[50, 50] 3 #[.slice (some ⟨w.heap.size + 1 + 1, 1, none⟩) 4 4, .slice (some ⟨b, off, none⟩) 1 ca]).run Tryz.prog (((w.alloc (.cells #[.string nm, .slice (some ⟨b, off, none⟩) 1 ca, .int .i64 ty] 52)).alloc (.cells #[.string ⟨#[]⟩, .int .i64 0, .int .i64 0, .int .i64 0, .int .i64 0, .int .i64 0] 48)).alloc (.cells #[.string nm, .int .i64 0, .int .i64 0, .int .i64 0, .int .i64 0, .int .i64 ty] 48)).drew = .ok (.int .i64 1) ((((w.alloc (.cells #[.string nm, .slice (some ⟨b, off, none⟩) 1 ca, .int .i64 ty] 52)).alloc (.cells #[.string ⟨#[]⟩, .int .i64 0, .int .i64 0, .int .i64 0, .int .i64 0, .int .i64 0] 48)).alloc (.cells #[.string nm, .int .i64 0, .int .i64 0, .int .i64 0, .int .i64 0, .int .i64 ty] 48)).drew.setCell ⟨w.heap.size + 1 + 1, 1, none⟩ (.int .i64 x0)) := copyF ((((w.alloc (.cells #[.string nm, .slice (some ⟨b, off, none⟩) 1 ca, .int .i64 ty] 52)).alloc (.cells #[.string ⟨#[]⟩, .int .i64 0, .int .i64 0, .int .i64 0, .int .i64 0, .int .i64 0] 48)).alloc (.cells #[.string nm, .int .i64 0, .int .i64 0, .int .i64 0, .int .i64 0, .int .i64 ty] 48)).drew) (w.heap.size + 1 + 1) b off 1 ca [.int .i64 x0] rfl (by omega) hsrc hdst (fun j => (new_third w _ _ _ _ j).2) (by simp [Value.oneCell'])
  clear hdst
  clear hsrc c0
  go_enter Tryz.func12, Tryz.ntmps12
  go_wp2
  go_region
  all_goals
    clear hcp
    go_wp2
    refine bodyPost_ret (v := .agg #[.string nm, .int .i64 x0, .int .i64 0, .int .i64 0, .int .i64 0, .int .i64 ty]) (by simp [results, Tryz.results12, go_sem]) rfl ?_
    refine ⟨rfl, ?_⟩
    exact ((((Below.refl _ w).alloc (Nat.le_refl _) _).alloc (by simp) _).alloc (by simp; omega) _).drew

set_option maxHeartbeats 1000000 in
theorem faceLineOf_2 (lo : Nat) (aa : Option Addr) (ca : Nat) (nm : ByteArray) (x0 x1 ty : Int) (w : World) (ha : IsInts w lo w.heap.size aa [x0, x1]) :
    Calls Tryz.prog 12 #[.agg #[.string nm, .slice aa 2 ca, .int .i64 ty]] w fun r w' => r = .returned (.agg #[.string nm, .int .i64 x0, .int .i64 x1, .int .i64 0, .int .i64 0, .int .i64 ty]) ∧ Below w.heap.size w w' := by
  obtain ⟨b, off, rfl, hb, hc⟩ := row_cells ha
  have c0 : w.cell? ⟨b, off, none⟩ = some (.int .i64 x0) := hc 0 (by simp)
  have c1 : w.cell? ⟨b, off + 1, none⟩ = some (.int .i64 x1) := hc 1 (by simp)
  clear hc ha
  have hsrc : ∀ j v, ([.int .i64 x0, .int .i64 x1] : List Value)[j]? = some v → (((w.alloc (.cells #[.string nm, .slice (some ⟨b, off, none⟩) 2 ca, .int .i64 ty] 52)).alloc (.cells #[.string ⟨#[]⟩, .int .i64 0, .int .i64 0, .int .i64 0, .int .i64 0, .int .i64 0] 48)).alloc (.cells #[.string nm, .int .i64 0, .int .i64 0, .int .i64 0, .int .i64 0, .int .i64 ty] 48)).drew.cell? ⟨b, off + j, none⟩ = some v := by
    intro j v hv
    have hbl : Below w.heap.size w (((w.alloc (.cells #[.string nm, .slice (some ⟨b, off, none⟩) 2 ca, .int .i64 ty] 52)).alloc (.cells #[.string ⟨#[]⟩, .int .i64 0, .int .i64 0, .int .i64 0, .int .i64 0, .int .i64 0] 48)).alloc (.cells #[.string nm, .int .i64 0, .int .i64 0, .int .i64 0, .int .i64 0, .int .i64 ty] 48)).drew := ((((Below.refl _ w).alloc (Nat.le_refl _) _).alloc (by simp) _).alloc (by simp; omega) _).drew
    rw [hbl.cell (p := ⟨b, off + j, none⟩) hb]
    have hj : j < 2 := by have := (List.getElem?_eq_some_iff.1 hv).1; simpa using this
    obtain rfl | rfl : j = 0 ∨ j = 1 := by omega
    · have e : Value.int .i64 x0 = v := by simpa using hv
      rw [← e]; exact c0
    · have e : Value.int .i64 x1 = v := by simpa using hv
      rw [← e]; exact c1
  have hdst : ∀ j, j < 6 → ((((w.alloc (.cells #[.string nm, .slice (some ⟨b, off, none⟩) 2 ca, .int .i64 ty] 52)).alloc (.cells #[.string ⟨#[]⟩, .int .i64 0, .int .i64 0, .int .i64 0, .int .i64 0, .int .i64 0] 48)).alloc (.cells #[.string nm, .int .i64 0, .int .i64 0, .int .i64 0, .int .i64 0, .int .i64 ty] 48)).drew.cell? ⟨w.heap.size + 1 + 1, j, none⟩).isSome = true := by
    intro j hj
    rw [(new_third w _ _ _ _ j).1]
    obtain rfl | rfl | rfl | rfl | rfl | rfl : j = 0 ∨ j = 1 ∨ j = 2 ∨ j = 3 ∨ j = 4 ∨ j = 5 := by omega
    all_goals rfl
  have hcp : (Builtin.copy_ #[50, 50] 3 #[.slice (some ⟨w.heap.size + 1 + 1, 1, none⟩) 4 4, .slice (some ⟨b, off, none⟩) 2 ca]).run Tryz.prog (((w.alloc (.cells #[.string nm, .slice (some ⟨b, off, none⟩) 2 ca, .int .i64 ty] 52)).alloc (.cells #[.string ⟨#[]⟩, .int .i64 0, .int .i64 0, .int .i64 0, .int .i64 0, .int .i64 0] 48)).alloc (.cells #[.string nm, .int .i64 0, .int .i64 0, .int .i64 0, .int .i64 0, .int .i64 ty] 48)).drew = .ok (.int .i64 2) (((((w.alloc (.cells #[.string nm, .slice (some ⟨b, off, none⟩) 2 ca, .int .i64 ty] 52)).alloc (.cells #[.string ⟨#[]⟩, .int .i64 0, .int .i64 0, .int .i64 0, .int .i64 0, .int .i64 0] 48)).alloc (.cells #[.string nm, .int .i64 0, .int .i64 0, .int .i64 0, .int .i64 0, .int .i64 ty] 48)).drew.setCell ⟨w.heap.size + 1 + 1, 1, none⟩ (.int .i64 x0)).setCell ⟨w.heap.size + 1 + 1, 2, none⟩ (.int .i64 x1)) := copyF ((((w.alloc (.cells #[.string nm, .slice (some ⟨b, off, none⟩) 2 ca, .int .i64 ty] 52)).alloc (.cells #[.string ⟨#[]⟩, .int .i64 0, .int .i64 0, .int .i64 0, .int .i64 0, .int .i64 0] 48)).alloc (.cells #[.string nm, .int .i64 0, .int .i64 0, .int .i64 0, .int .i64 0, .int .i64 ty] 48)).drew) (w.heap.size + 1 + 1) b off 2 ca [.int .i64 x0, .int .i64 x1] rfl (by omega) hsrc hdst (fun j => (new_third w _ _ _ _ j).2) (by simp [Value.oneCell'])
  clear hdst
  clear hsrc c0 c1
  go_enter Tryz.func12, Tryz.ntmps12
  go_wp2
  go_region
  all_goals
    clear hcp
    go_wp2
    refine bodyPost_ret (v := .agg #[.string nm, .int .i64 x0, .int .i64 x1, .int .i64 0, .int .i64 0, .int .i64 ty]) (by simp [results, Tryz.results12, go_sem]) rfl ?_
    refine ⟨rfl, ?_⟩
    exact ((((Below.refl _ w).alloc (Nat.le_refl _) _).alloc (by simp) _).alloc (by simp; omega) _).drew

set_option maxHeartbeats 1000000 in
theorem faceLineOf_3 (lo : Nat) (aa : Option Addr) (ca : Nat) (nm : ByteArray) (x0 x1 x2 ty : Int) (w : World) (ha : IsInts w lo w.heap.size aa [x0, x1, x2]) :
    Calls Tryz.prog 12 #[.agg #[.string nm, .slice aa 3 ca, .int .i64 ty]] w fun r w' => r = .returned (.agg #[.string nm, .int .i64 x0, .int .i64 x1, .int .i64 x2, .int .i64 0, .int .i64 ty]) ∧ Below w.heap.size w w' := by
  obtain ⟨b, off, rfl, hb, hc⟩ := row_cells ha
  have c0 : w.cell? ⟨b, off, none⟩ = some (.int .i64 x0) := hc 0 (by simp)
  have c1 : w.cell? ⟨b, off + 1, none⟩ = some (.int .i64 x1) := hc 1 (by simp)
  have c2 : w.cell? ⟨b, off + 2, none⟩ = some (.int .i64 x2) := hc 2 (by simp)
  clear hc ha
  have hsrc : ∀ j v, ([.int .i64 x0, .int .i64 x1, .int .i64 x2] : List Value)[j]? = some v → (((w.alloc (.cells #[.string nm, .slice (some ⟨b, off, none⟩) 3 ca, .int .i64 ty] 52)).alloc (.cells #[.string ⟨#[]⟩, .int .i64 0, .int .i64 0, .int .i64 0, .int .i64 0, .int .i64 0] 48)).alloc (.cells #[.string nm, .int .i64 0, .int .i64 0, .int .i64 0, .int .i64 0, .int .i64 ty] 48)).drew.cell? ⟨b, off + j, none⟩ = some v := by
    intro j v hv
    have hbl : Below w.heap.size w (((w.alloc (.cells #[.string nm, .slice (some ⟨b, off, none⟩) 3 ca, .int .i64 ty] 52)).alloc (.cells #[.string ⟨#[]⟩, .int .i64 0, .int .i64 0, .int .i64 0, .int .i64 0, .int .i64 0] 48)).alloc (.cells #[.string nm, .int .i64 0, .int .i64 0, .int .i64 0, .int .i64 0, .int .i64 ty] 48)).drew := ((((Below.refl _ w).alloc (Nat.le_refl _) _).alloc (by simp) _).alloc (by simp; omega) _).drew
    rw [hbl.cell (p := ⟨b, off + j, none⟩) hb]
    have hj : j < 3 := by have := (List.getElem?_eq_some_iff.1 hv).1; simpa using this
    obtain rfl | rfl | rfl : j = 0 ∨ j = 1 ∨ j = 2 := by omega
    · have e : Value.int .i64 x0 = v := by simpa using hv
      rw [← e]; exact c0
    · have e : Value.int .i64 x1 = v := by simpa using hv
      rw [← e]; exact c1
    · have e : Value.int .i64 x2 = v := by simpa using hv
      rw [← e]; exact c2
  have hdst : ∀ j, j < 6 → ((((w.alloc (.cells #[.string nm, .slice (some ⟨b, off, none⟩) 3 ca, .int .i64 ty] 52)).alloc (.cells #[.string ⟨#[]⟩, .int .i64 0, .int .i64 0, .int .i64 0, .int .i64 0, .int .i64 0] 48)).alloc (.cells #[.string nm, .int .i64 0, .int .i64 0, .int .i64 0, .int .i64 0, .int .i64 ty] 48)).drew.cell? ⟨w.heap.size + 1 + 1, j, none⟩).isSome = true := by
    intro j hj
    rw [(new_third w _ _ _ _ j).1]
    obtain rfl | rfl | rfl | rfl | rfl | rfl : j = 0 ∨ j = 1 ∨ j = 2 ∨ j = 3 ∨ j = 4 ∨ j = 5 := by omega
    all_goals rfl
  have hcp : (Builtin.copy_ #[50, 50] 3 #[.slice (some ⟨w.heap.size + 1 + 1, 1, none⟩) 4 4, .slice (some ⟨b, off, none⟩) 3 ca]).run Tryz.prog (((w.alloc (.cells #[.string nm, .slice (some ⟨b, off, none⟩) 3 ca, .int .i64 ty] 52)).alloc (.cells #[.string ⟨#[]⟩, .int .i64 0, .int .i64 0, .int .i64 0, .int .i64 0, .int .i64 0] 48)).alloc (.cells #[.string nm, .int .i64 0, .int .i64 0, .int .i64 0, .int .i64 0, .int .i64 ty] 48)).drew = .ok (.int .i64 3) ((((((w.alloc (.cells #[.string nm, .slice (some ⟨b, off, none⟩) 3 ca, .int .i64 ty] 52)).alloc (.cells #[.string ⟨#[]⟩, .int .i64 0, .int .i64 0, .int .i64 0, .int .i64 0, .int .i64 0] 48)).alloc (.cells #[.string nm, .int .i64 0, .int .i64 0, .int .i64 0, .int .i64 0, .int .i64 ty] 48)).drew.setCell ⟨w.heap.size + 1 + 1, 1, none⟩ (.int .i64 x0)).setCell ⟨w.heap.size + 1 + 1, 2, none⟩ (.int .i64 x1)).setCell ⟨w.heap.size + 1 + 1, 3, none⟩ (.int .i64 x2)) := copyF ((((w.alloc (.cells #[.string nm, .slice (some ⟨b, off, none⟩) 3 ca, .int .i64 ty] 52)).alloc (.cells #[.string ⟨#[]⟩, .int .i64 0, .int .i64 0, .int .i64 0, .int .i64 0, .int .i64 0] 48)).alloc (.cells #[.string nm, .int .i64 0, .int .i64 0, .int .i64 0, .int .i64 0, .int .i64 ty] 48)).drew) (w.heap.size + 1 + 1) b off 3 ca [.int .i64 x0, .int .i64 x1, .int .i64 x2] rfl (by omega) hsrc hdst (fun j => (new_third w _ _ _ _ j).2) (by simp [Value.oneCell'])
  clear hdst
  clear hsrc c0 c1 c2
  go_enter Tryz.func12, Tryz.ntmps12
  go_wp2
  go_region
  all_goals
    clear hcp
    go_wp2
    refine bodyPost_ret (v := .agg #[.string nm, .int .i64 x0, .int .i64 x1, .int .i64 x2, .int .i64 0, .int .i64 ty]) (by simp [results, Tryz.results12, go_sem]) rfl ?_
    refine ⟨rfl, ?_⟩
    exact ((((Below.refl _ w).alloc (Nat.le_refl _) _).alloc (by simp) _).alloc (by simp; omega) _).drew

set_option maxHeartbeats 1000000 in
theorem faceLineOf_4 (lo : Nat) (aa : Option Addr) (ca : Nat) (nm : ByteArray) (x0 x1 x2 x3 ty : Int) (w : World) (ha : IsInts w lo w.heap.size aa [x0, x1, x2, x3]) :
    Calls Tryz.prog 12 #[.agg #[.string nm, .slice aa 4 ca, .int .i64 ty]] w fun r w' => r = .returned (.agg #[.string nm, .int .i64 x0, .int .i64 x1, .int .i64 x2, .int .i64 x3, .int .i64 ty]) ∧ Below w.heap.size w w' := by
  obtain ⟨b, off, rfl, hb, hc⟩ := row_cells ha
  have c0 : w.cell? ⟨b, off, none⟩ = some (.int .i64 x0) := hc 0 (by simp)
  have c1 : w.cell? ⟨b, off + 1, none⟩ = some (.int .i64 x1) := hc 1 (by simp)
  have c2 : w.cell? ⟨b, off + 2, none⟩ = some (.int .i64 x2) := hc 2 (by simp)
  have c3 : w.cell? ⟨b, off + 3, none⟩ = some (.int .i64 x3) := hc 3 (by simp)
  clear hc ha
  have hsrc : ∀ j v, ([.int .i64 x0, .int .i64 x1, .int .i64 x2, .int .i64 x3] : List Value)[j]? = some v → (((w.alloc (.cells #[.string nm, .slice (some ⟨b, off, none⟩) 4 ca, .int .i64 ty] 52)).alloc (.cells #[.string ⟨#[]⟩, .int .i64 0, .int .i64 0, .int .i64 0, .int .i64 0, .int .i64 0] 48)).alloc (.cells #[.string nm, .int .i64 0, .int .i64 0, .int .i64 0, .int .i64 0, .int .i64 ty] 48)).drew.cell? ⟨b, off + j, none⟩ = some v := by
    intro j v hv
    have hbl : Below w.heap.size w (((w.alloc (.cells #[.string nm, .slice (some ⟨b, off, none⟩) 4 ca, .int .i64 ty] 52)).alloc (.cells #[.string ⟨#[]⟩, .int .i64 0, .int .i64 0, .int .i64 0, .int .i64 0, .int .i64 0] 48)).alloc (.cells #[.string nm, .int .i64 0, .int .i64 0, .int .i64 0, .int .i64 0, .int .i64 ty] 48)).drew := ((((Below.refl _ w).alloc (Nat.le_refl _) _).alloc (by simp) _).alloc (by simp; omega) _).drew
    rw [hbl.cell (p := ⟨b, off + j, none⟩) hb]
    have hj : j < 4 := by have := (List.getElem?_eq_some_iff.1 hv).1; simpa using this
    obtain rfl | rfl | rfl | rfl : j = 0 ∨ j = 1 ∨ j = 2 ∨ j = 3 := by omega
    · have e : Value.int .i64 x0 = v := by simpa using hv
      rw [← e]; exact c0
    · have e : Value.int .i64 x1 = v := by simpa using hv
      rw [← e]; exact c1
    · have e : Value.int .i64 x2 = v := by simpa using hv
      rw [← e]; exact c2
    · have e : Value.int .i64 x3 = v := by simpa using hv
      rw [← e]; exact c3
  have hdst : ∀ j, j < 6 → ((((w.alloc (.cells #[.string nm, .slice (some ⟨b, off, none⟩) 4 ca, .int .i64 ty] 52)).alloc (.cells #[.string ⟨#[]⟩, .int .i64 0, .int .i64 0, .int .i64 0, .int .i64 0, .int .i64 0] 48)).alloc (.cells #[.string nm, .int .i64 0, .int .i64 0, .int .i64 0, .int .i64 0, .int .i64 ty] 48)).drew.cell? ⟨w.heap.size + 1 + 1, j, none⟩).isSome = true := by
    intro j hj
    rw [(new_third w _ _ _ _ j).1]
    obtain rfl | rfl | rfl | rfl | rfl | rfl : j = 0 ∨ j = 1 ∨ j = 2 ∨ j = 3 ∨ j = 4 ∨ j = 5 := by omega
    all_goals rfl
  have hcp : (Builtin.copy_ #[50, 50] 3 #[.slice (some ⟨w.heap.size + 1 + 1, 1, none⟩) 4 4, .slice (some ⟨b, off, none⟩) 4 ca]).run Tryz.prog (((w.alloc (.cells #[.string nm, .slice (some ⟨b, off, none⟩) 4 ca, .int .i64 ty] 52)).alloc (.cells #[.string ⟨#[]⟩, .int .i64 0, .int .i64 0, .int .i64 0, .int .i64 0, .int .i64 0] 48)).alloc (.cells #[.string nm, .int .i64 0, .int .i64 0, .int .i64 0, .int .i64 0, .int .i64 ty] 48)).drew = .ok (.int .i64 4) (((((((w.alloc (.cells #[.string nm, .slice (some ⟨b, off, none⟩) 4 ca, .int .i64 ty] 52)).alloc (.cells #[.string ⟨#[]⟩, .int .i64 0, .int .i64 0, .int .i64 0, .int .i64 0, .int .i64 0] 48)).alloc (.cells #[.string nm, .int .i64 0, .int .i64 0, .int .i64 0, .int .i64 0, .int .i64 ty] 48)).drew.setCell ⟨w.heap.size + 1 + 1, 1, none⟩ (.int .i64 x0)).setCell ⟨w.heap.size + 1 + 1, 2, none⟩ (.int .i64 x1)).setCell ⟨w.heap.size + 1 + 1, 3, none⟩ (.int .i64 x2)).setCell ⟨w.heap.size + 1 + 1, 4, none⟩ (.int .i64 x3)) := copyF ((((w.alloc (.cells #[.string nm, .slice (some ⟨b, off, none⟩) 4 ca, .int .i64 ty] 52)).alloc (.cells #[.string ⟨#[]⟩, .int .i64 0, .int .i64 0, .int .i64 0, .int .i64 0, .int .i64 0] 48)).alloc (.cells #[.string nm, .int .i64 0, .int .i64 0, .int .i64 0, .int .i64 0, .int .i64 ty] 48)).drew) (w.heap.size + 1 + 1) b off 4 ca [.int .i64 x0, .int .i64 x1, .int .i64 x2, .int .i64 x3] rfl (by omega) hsrc hdst (fun j => (new_third w _ _ _ _ j).2) (by simp [Value.oneCell'])
  clear hdst
  clear hsrc c0 c1 c2 c3
  go_enter Tryz.func12, Tryz.ntmps12
  go_wp2
  go_region
  all_goals
    clear hcp
    go_wp2
    refine bodyPost_ret (v := .agg #[.string nm, .int .i64 x0, .int .i64 x1, .int .i64 x2, .int .i64 x3, .int .i64 ty]) (by simp [results, Tryz.results12, go_sem]) rfl ?_
    refine ⟨rfl, ?_⟩
    exact ((((Below.refl _ w).alloc (Nat.le_refl _) _).alloc (by simp) _).alloc (by simp; omega) _).drew

theorem faceLineOf_any (lo : Nat) (v : Value) (s : TS) (w : World) (hS : IsSig w lo w.heap.size v s) (h4 : s.args.length ≤ 4) :
    Calls Tryz.prog 12 #[v] w fun r w' => r = .returned (lineV s) ∧ Below w.heap.size w w' := by
  obtain ⟨nm, args, ty⟩ := s
  obtain ⟨aa, ca, rfl, _, ha⟩ := hS
  dsimp only at ha h4 ⊢
  rcases args with _ | ⟨x0, _ | ⟨x1, _ | ⟨x2, _ | ⟨x3, _ | ⟨x4, r⟩⟩⟩⟩⟩
  · exact faceLineOf_0 lo aa ca nm ty w ha
  · exact faceLineOf_1 lo aa ca nm x0 ty w ha
  · exact faceLineOf_2 lo aa ca nm x0 x1 ty w ha
  · exact faceLineOf_3 lo aa ca nm x0 x1 x2 ty w ha
  · exact faceLineOf_4 lo aa ca nm x0 x1 x2 x3 ty w ha
  · simp at h4
end Go.Proofs.YtffabnmgcicpiaaGreat
