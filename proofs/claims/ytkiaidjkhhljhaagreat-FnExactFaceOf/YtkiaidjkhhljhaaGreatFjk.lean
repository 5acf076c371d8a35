/- Tables of lines by their names, and their lines in order: the walk of told. Conditions: the table holds lines under their names. The walk of told. Conditions: the table holds at most eight lines, each under its name. -/
import Derived.Test.YtkiaidjkhhljhaaGreatFh
import Derived.Test.YtkiaidjkhhljhaaGreatIt
import Derived.Maps.OwnSet
import Derived.Maps.Ext
import Derived.Sort.KeysCollected
namespace Go.Proofs.YtkiaidjkhhljhaaGreat
open Go.RowKit Go.PlainAid

open Go.Maps Go.Sort
def RH (v : Value) : Option (DataW Value × List MemPlace) := some (.held v, [])
/-- The table D holds, under each name of the list, a line of the list with that name, and nothing else. -/
structure Tab (D : DataW Value) (l : List TS) : Prop where
  has : ∀ k, Maps.has D (.string k) = true ↔ ∃ s ∈ l, key s = k
  look : ∀ k, Maps.has D (.string k) = true → ∃ s ∈ l, key s = k ∧ ∀ z, D.atKey (.string k) z = .held (lineV s)
theorem keyLit (k : List UInt8) : WideAt.IsKeyLit (.string k) := by simp [WideAt.IsKeyLit]
theorem Tab.nil : Tab (.map []) [] := ⟨fun k => by simp [Maps.has], fun k h => by simp [Maps.has] at h⟩
theorem Tab.put {D : DataW Value} {l : List TS} (h : Tab D l) (hm : IsMap D) (s : TS) : Tab (D.put (.string (key s)) (.held (lineV s))) (l ++ [s]) := by
  have hne : ∀ k, key s ≠ k → (Lit.string k) ≠ (.string (key s)) := fun k hk e => hk (by simpa using e.symm)
  refine ⟨fun k => ?_, fun k hk => ?_⟩
  · by_cases e : key s = k
    · subst e
      rw [has_put_same hm (keyLit _)]
      exact ⟨fun _ => ⟨s, by simp, rfl⟩, fun _ => rfl⟩
    · rw [has_put_other (hne k e), h.has k]
      constructor
      · rintro ⟨t, ht, hk⟩; exact ⟨t, by simp [ht], hk⟩
      · rintro ⟨t, ht, hk⟩
        rcases List.mem_append.1 ht with h1 | h1
        · exact ⟨t, h1, hk⟩
        · simp at h1; subst h1; exact absurd hk e
  · by_cases e : key s = k
    · subst e
      exact ⟨s, by simp, rfl, fun z => atKey_put_same hm (keyLit _) _ _⟩
    · rw [has_put_other (hne k e)] at hk
      obtain ⟨t, ht, hk, hz⟩ := h.look k hk
      exact ⟨t, by simp [ht], hk, fun z => by rw [atKey_put_other (hne k e)]; exact hz z⟩
/-- Lines in ascending order. -/
def Asc (l : List TS) : Prop := (l.map key).Pairwise (fun a b => a < b)
theorem owns_below {P : Program} {k : TypeId} {R : Value → Option (DataW Value × List MemPlace)} {w w' : World} {b n m : Nat} {D : DataW Value} (h : w.ownsMap P k R b n D) (hb : Below m w w') (hm : b < m) : w'.ownsMap P k R b n D := by
  obtain ⟨es, clock, h1, h2⟩ := h
  exact ⟨es, clock, (hb.block b hm).trans h1, h2⟩
theorem keys_mem {P : Program} {k : TypeId} {R : Value → Option (DataW Value × List MemPlace)} {w : World} {b n : Nat} {D : DataW Value} (h : w.ownsMap P k R b n D) (hk : P.underlying k = some .string) (K : Keyed P k) :
    (∀ x, x ∈ strKeys D ↔ Maps.has D (.string x) = true) ∧ (strKeys D).Nodup ∧ ∀ x ∈ strKeys D, x.length ≤ maxLen := by
  have hle := strKeys_le h hk
  obtain ⟨es', hD', hpw⟩ := h.tidy K
  obtain ⟨es, rfl, hko⟩ := h.keysOf
  obtain rfl : es = es' := by simpa using hD'
  have hs : ∀ p ∈ es, ∃ x, p.1 = .string x := fun p hp => by
    obtain ⟨v, hv⟩ := hko p hp
    obtain ⟨x, _, hx, _⟩ := Maps.keyOf_str hk hv
    exact ⟨x, hx⟩
  refine ⟨fun x => ?_, ?_, hle⟩
  · rw [has_eq, List.any_eq_true]
    show x ∈ es.map (fun p => strOf p.1) ↔ _
    rw [List.mem_map]
    constructor
    · rintro ⟨p, hp, rfl⟩
      obtain ⟨a, ha⟩ := hs p hp
      exact ⟨p, hp, by rw [ha]; simp [Lit.sameKey, strOf]⟩
    · rintro ⟨p, hp, hx⟩
      obtain ⟨a, ha⟩ := hs p hp
      rw [ha] at hx
      exact ⟨p, hp, by rw [ha]; simpa [Lit.sameKey, strOf] using hx⟩
  · show (es.map fun p => strOf p.1).Nodup
    refine List.pairwise_map.2 (hpw.imp_of_mem fun {p q} hp hq hne e => hne ?_)
    obtain ⟨a, ha⟩ := hs p hp
    obtain ⟨b, hb⟩ := hs q hq
    rw [ha, hb] at e ⊢
    exact congrArg _ e
/-- The lines of a table, in order: what told hands back. -/
def Told (l ts : List TS) : Prop := Asc ts ∧ (∀ s ∈ ts, s ∈ l) ∧ ∀ s ∈ l, ∃ t ∈ ts, key t = key s
theorem told_plain {P : Program} {k : TypeId} {R : Value → Option (DataW Value × List MemPlace)} {w : World} {b n : Nat} {D : DataW Value} {l : List TS} (h : w.ownsMap P k R b n D) (hk : P.underlying k = some .string) (K : Keyed P k) (hT : Tab D l) {ss : List (List UInt8)} (hp : ss.Perm (strKeys D)) :
    ∃ ts : List TS, ts.map key = ss.mergeSort (fun x y => decide (x ≤ y)) ∧ Told l ts ∧ ∀ s ∈ ts, (∀ z, D.atKey (.string (key s)) z = .held (lineV s)) ∧ (key s).length ≤ maxLen := by
  obtain ⟨hm, hnd, hle⟩ := keys_mem h hk K
  have hperm : (ss.mergeSort (fun x y => decide (x ≤ y))).Perm (strKeys D) := (List.mergeSort_perm ss _).trans hp
  have hsort : (ss.mergeSort (fun x y => decide (x ≤ y))).Pairwise (fun a b => a < b) := by
    have tr : ∀ a b c : List UInt8, decide (a ≤ b) = true → decide (b ≤ c) = true → decide (a ≤ c) = true := fun a b c h1 h2 => by simp only [decide_eq_true_eq] at *; exact List.le_trans h1 h2
    have tl : ∀ a b : List UInt8, (decide (a ≤ b) || decide (b ≤ a)) = true := fun a b => by simp only [Bool.or_eq_true, decide_eq_true_eq]; exact List.le_total a b
    have h1 := List.pairwise_mergeSort tr tl ss
    have h2 : (ss.mergeSort (fun x y => decide (x ≤ y))).Nodup := hperm.nodup_iff.2 hnd
    refine (h1.and h2).imp ?_
    rintro a b ⟨h3, h4⟩
    simp only [decide_eq_true_eq] at h3
    by_cases h5 : a < b
    · exact h5
    · exact absurd (List.le_antisymm h3 (List.not_lt.1 h5)) h4
  generalize ss.mergeSort (fun x y => decide (x ≤ y)) = ks at hperm hsort
  have hall : ∀ k ∈ ks, ∃ s ∈ l, key s = k ∧ ∀ z, D.atKey (.string k) z = .held (lineV s) := fun k hk => hT.look k ((hm k).1 (hperm.mem_iff.1 hk))
  have hex : ∀ ks : List (List UInt8), (∀ k ∈ ks, ∃ s ∈ l, key s = k ∧ ∀ z, D.atKey (.string k) z = .held (lineV s)) → ∃ ts : List TS, ts.map key = ks ∧ ∀ s ∈ ts, s ∈ l ∧ ∀ z, D.atKey (.string (key s)) z = .held (lineV s) := by
    intro ks
    induction ks with
    | nil => exact fun _ => ⟨[], rfl, by simp⟩
    | cons a r ih =>
      intro hx
      obtain ⟨s, hs, he, hz⟩ := hx a (by simp)
      obtain ⟨ts, h1, h2⟩ := ih (fun k hk => hx k (by simp [hk]))
      refine ⟨s :: ts, by simp [h1, he], fun t ht => ?_⟩
      rcases List.mem_cons.1 ht with rfl | ht
      · exact ⟨hs, by rw [he]; exact hz⟩
      · exact h2 t ht
  obtain ⟨ts, h1, h2⟩ := hex ks hall
  refine ⟨ts, h1, ⟨by unfold Asc; rw [h1]; exact hsort, fun s hs => (h2 s hs).1, fun s hs => ?_⟩, fun s hs => ⟨(h2 s hs).2, hle _ (hperm.mem_iff.1 (by rw [← h1]; exact List.mem_map.2 ⟨s, hs, rfl⟩))⟩⟩
  have : key s ∈ ks := hperm.mem_iff.2 ((hm _).2 ((hT.has _).2 ⟨s, hs, rfl⟩))
  rw [← h1] at this
  obtain ⟨t, ht, he⟩ := List.mem_map.1 this
  exact ⟨t, ht, he⟩
end Go.Proofs.YtkiaidjkhhljhaaGreat

namespace Go.Proofs.YtkiaidjkhhljhaaGreat
open Go.RowKit Go.PlainAid

open Go.Maps Go.Sort
theorem infoLine : (Tryz.prog.info? 61).map (fun i => (i.zero, i.size, i.bytes)) = some (some (.agg #[.string ⟨#[]⟩, .int .i64 0, .int .i64 0, .int .i64 0, .int .i64 0, .int .i64 0]), 6, 56) := by kernel_rfl
theorem fown_base {W : World} {m m' e size k : Nat} {v : Value} {xs : List Value} (h : W.ownsRow m e size v k xs) (hm : m' ≤ m) : W.ownsRow m' e size v k xs := by
  refine ⟨h.1, ?_⟩
  rcases h.2 with hn | ⟨g, cap, cur, hv, hg, rest⟩
  · exact .inl hn
  · exact .inr ⟨g, cap, cur, hv, by omega, rest⟩
theorem fown_keys {W : World} {m e k : Nat} {v : Value} {ks : List (List UInt8)} (h : W.ownsRow m e 1 v k (ks.map encStr)) : ∃ (a : Option Addr) (cap : Nat), v = .slice a ks.length cap ∧ ∀ j (hj : j < ks.length), ∃ g, a = some ⟨g, 0, none⟩ ∧ g < W.heap.size ∧ W.cell? ⟨g, j, none⟩ = some (encStr ks[j]) := by
  have hk : k = ks.length := by have := h.1; simp at this; omega
  subst hk
  rcases h.2 with ⟨hv, h0⟩ | ⟨g, cap, cur, hv, hg, hgb, hnc, _, hcs, htk⟩
  · exact ⟨none, 0, by rw [hv, h0], fun j hj => by omega⟩
  · refine ⟨_, _, hv, fun j hj => ⟨g, rfl, (Array.getElem?_eq_some_iff.1 hgb).1, ?_⟩⟩
    have h1 : W.cell? ⟨g, j, none⟩ = cur[j]? := by simp [World.cell?, hgb]
    have h2 : (ks.map encStr)[j]? = some (encStr ks[j]) := by simp [hj]
    rw [h1, ← h2, ← htk, List.getElem?_take_of_lt (by omega)]
    simp
theorem news_line (W : World) (s : TS) (t : TypeId) : ∀ j u, (lineC s)[j]? = some u → (W.alloc (.cells (lineC s).toArray t)).cell? ((⟨W.heap.size, 0, none⟩ : Addr).add j) = some u := fun j u hu => by
  rw [Addr.add_lit, Nat.zero_add, alloc_cell]
  simpa using hu
theorem fown_next {W w2 : World} {base k : Nat} {v v2 : Value} {xs ys : List Value} {e size m : Nat} {o : Obj} (hrow : W.ownsRow base e size v k xs) (hW : base ≤ W.heap.size)
    (_ : w2.ownsRow base e size v2 m ys) (hgrow : (W.alloc o).grownBy w2 v.ownBlock) : Below base W w2 :=
  (((Below.refl base W).alloc hW _)).grown hgrow (by simp; omega) (fun k e => (hrow.lt k e).1)

set_option maxRecDepth 100000 in
set_option maxHeartbeats 2000000 in
theorem told_any (b n : Nat) (D : DataW Value) (l : List TS) (w : World) (hown : w.ownsMap Tryz.prog 9 RH b n D) (hn : n ≤ 8) (hT : Tab D l) :
    Calls Tryz.prog 26 #[.map (some b)] w fun r w' => ∃ (v : Value) (ts : List TS), r = .returned v ∧ w'.ownsRow w.heap.size 61 6 v ts.length (flatL ts) ∧ Told l ts ∧ Below w.heap.size w w' := by
  have K : Keyed Tryz.prog 9 := string_keyed Tryz.underlying9
  have hsz : Maps.size D ≤ 8 := Nat.le_trans hown.size_le hn
  obtain ⟨i0, hi, hz0, hz1, hz2⟩ := info_parts infoLine
  have hbl := hown.lt
  have HOWN := hide hown
  have HKEYS := hide (fun (mb : Option Nat) (W : World) => callsIn_wide.1 (Tryz.maps_Keys_F mb W))
  have HSORT := hide (callsIn_wide.1 (Tryz.slices_Sorted_keys_F b n D RH w hown (by unfold maxLen; omega) (by omega)))
  have HT := hide hT
  have HSZ : Hid (∀ ss : List (List UInt8), ss.Perm (strKeys D) → ss.length ≤ 8) := hide (fun ss hp => by
    rw [hp.length_eq]
    obtain ⟨es, hD⟩ := hown.isMap
    rw [hD] at hsz ⊢
    simpa [strKeys, Maps.size] using hsz)
  clear hown hT hsz
  go_enter Tryz.func26, Tryz.ntmps26
  go_wp2_with (first
    | (go_at_call 66; refine (unhide HKEYS _ _).mono ?_; rintro e w' ⟨rfl, rfl⟩)
    | (go_at_call 65; refine (unhide HSORT).mono ?_; rintro e w1 ⟨v, ss, rfl, hS, hrow, hnil, hb⟩; obtain ⟨ts, hts, hTold, hat⟩ := told_plain (unhide HOWN) Tryz.underlying9 K (unhide HT) hS; rw [← hts] at hrow; obtain ⟨ao, cap, rfl, hcell⟩ := fown_keys hrow; have hlen := unhide HSZ ss hS; have htl : (ts.map key).length = ts.length := List.length_map ..; have hln : ts.length ≤ 8 := (by rw [← htl, hts, List.length_mergeSort]; exact hlen); have hbw : Below w.heap.size w w1 := ((Below.refl _ w).alloc (Nat.le_refl _) _).trans (hb.mono (by simp)); have hsz1 : w.heap.size ≤ w1.heap.size := hbw.size; have HCELL := hide hcell; have HTOLD := hide hTold; have HAT := hide hat; have HBW := hide hbw; clear hS hrow hnil hb hts hcell hTold hat hlen hbw HKEYS HSORT HT HSZ; rw [htl]; clear htl))
  go_loopw [3, 5, 10] (fun o _ i wr => ∃ k : Nat, k ≤ ts.length ∧ i = .int .i64 k ∧ wr.ownsRow w1.heap.size 61 6 o k (flatL (ts.take k)) ∧ Hid (Below w1.heap.size w1 wr)) (fun _ _ i _ => ts.length - (intOf i).toNat)
  case atStart => exact ⟨0, Nat.zero_le _, rfl, World.ownsRow_nil _ _ _ _, hide (Below.refl _ _)⟩
  case round =>
    obtain ⟨k, hk, rfl, hrow, HB⟩ := hrel
    by_cases hp : k < ts.length
    · obtain ⟨g, rfl, hg, hc⟩ := unhide HCELL k (by simpa using hp)
      have hmem : ts[k]'hp ∈ ts := List.getElem_mem hp
      have hc2 : wr.cell? ⟨g, k, none⟩ = some (encStr (key (ts[k]'hp))) := ((unhide HB).cell (p := ⟨g, k, none⟩) hg).trans (by rw [hc]; simp)
      obtain ⟨hat, hkl⟩ := unhide HAT _ hmem
      have hown2 := owns_below (owns_below (unhide HOWN) (unhide HBW) hbl) (unhide HB) (by omega)
      have htk : ts.take (k + 1) = ts.take k ++ [ts[k]] := List.take_succ_eq_append_getElem hp
      obtain ⟨s, hs⟩ : ∃ s, ts[k]'hp = s := ⟨_, rfl⟩
      rw [hs] at hc2 hat hkl htk
      have hks : encStr (key s) = .string s.name := by simp [encStr, key]
      rw [hks] at hc2
      obtain ⟨v, ps, hrun, hv⟩ := hown2.lookup K Tryz.underlying58 (Tryz.zeroValue61 wr) (zd := .held (.agg #[.string ⟨#[]⟩, .int .i64 0, .int .i64 0, .int .i64 0, .int .i64 0, .int .i64 0])) (zp := []) rfl (key := .string s.name) (kl := .string (key s)) (WideMaps.keyOf_string_mk Tryz.underlying9 (by simpa [key] using hkl))
      rw [hat] at hv
      have hvv : v = lineV s := by simp [RH] at hv; exact hv.1
      subst hvv
      obtain ⟨vs, cp, rfl⟩ := fown_slice hrow
      have HTK := hide htk
      have HROW := hide hrow
      clear hc hmem hat hkl hown2 htk hs hks hv
      go_wp2_with (at_builtin; refine wpList_append_own _ rfl _ _ 67 rfl w1.heap.size 61 i0 (.agg #[.string ⟨#[]⟩, .int .i64 0, .int .i64 0, .int .i64 0, .int .i64 0, .int .i64 0]) 6 56 Tryz.underlying67 hi hz0 hz1 hz2 rfl (by decide) _ _ _ rfl (hrow.alloc _) ⟨wr.heap.size, 0, none⟩ 1 1 (lineC s) rfl rfl (news_line wr s 61) (by simp [lineC, Value.oneCell']) (by unfold maxLen; omega) (by omega) (by have := (unhide HB).size; simp; omega) ?_; intro v2 w2 hown2 hgrow2 _; have hbb := fown_next (unhide HROW) (unhide HB).size hown2 hgrow2; have HO := hide hown2; have HBB := hide hbb; clear hown2 hgrow2 hbb hrow hrun hc2)
      go_roundw
      case rel => exact ⟨k + 1, by omega, by go_num, by rw [unhide HTK, flatL_snoc]; exact unhide HO, hide ((unhide HB).trans (unhide HBB))⟩
      case measure => simp [intOf] <;> omega
    · have e : k = ts.length := by omega
      subst e
      rw [List.take_length] at hrow
      obtain ⟨vs, cp, rfl⟩ := fown_slice hrow
      have HROW := hide hrow
      clear hrow
      go_wp2
      go_ret
      exact ⟨_, ts, rfl, fown_base (unhide HROW) hsz1, unhide HTOLD, (unhide HBW).trans ((unhide HB).mono hsz1)⟩
end Go.Proofs.YtkiaidjkhhljhaaGreat
