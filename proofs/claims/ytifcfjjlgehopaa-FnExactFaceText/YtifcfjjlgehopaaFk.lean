/- The walk of told. Conditions: the table holds at most eight lines, each under its name. -/
import Derived.Test.YtifcfjjlgehopaaFj
namespace Go.Proofs.Ytifcfjjlgehopaa
open Go.RowKit Go.PlainAid

open Go.Maps Go.Sort
theorem infoLine : (Try.prog.info? 55).map (fun i => (i.zero, i.size, i.bytes)) = some (some (.agg #[.string ⟨#[]⟩, .int .i64 0, .int .i64 0, .int .i64 0, .int .i64 0, .int .i64 0]), 6, 56) := by kernel_rfl
theorem fown_base {W : World} {m m' e size k : Nat} {v : Value} {xs : List Value} (h : W.ownsRow m e size v k xs) (hm : m' ≤ m) : W.ownsRow m' e size v k xs := by
  refine ⟨h.1, ?_⟩
  rcases h.2 with hn | ⟨g, cap, cur, hv, hg, rest⟩
  · exact .inl hn
  · exact .inr ⟨g, cap, cur, hv, by omega, rest⟩
theorem fown_keys {W : World} {m e k : Nat} {v : Value} {ks : List (List UInt8)} (h : W.ownsRow m e 1 v k (ks.map encStr)) : ∃ (a : Option Addr) (cap : Nat), v = .slice a ks.length cap ∧ ∀ j (hj : j < ks.length), ∃ g, a = some ⟨g, 0, none⟩ ∧ g < W.heap.size ∧ W.cell? ⟨g, j, none⟩ = some (encStr ks[j]) := by
  have hk : k = ks.length := by have := h.1; simp at this; omega
  subst hk
  rcases h.2 with ⟨hv, h0⟩ | ⟨g, cap, cur, hv, hg, hgb, hnc, _, hcs, htk⟩
  · exact ⟨none, 0, by rw [hv, h0], fun j hj => by omega⟩
  · refine ⟨_, _, hv, fun j hj => ⟨g, rfl, (Array.getElem?_eq_some_iff.1 hgb).1, ?_⟩⟩
    have h1 : W.cell? ⟨g, j, none⟩ = cur[j]? := by simp [World.cell?, hgb]
    have h2 : (ks.map encStr)[j]? = some (encStr ks[j]) := by simp [hj]
    rw [h1, ← h2, ← htk, List.getElem?_take_of_lt (by omega)]
    simp
theorem news_line (W : World) (s : TS) (t : TypeId) : ∀ j u, (lineC s)[j]? = some u → (W.alloc (.cells (lineC s).toArray t)).cell? ((⟨W.heap.size, 0, none⟩ : Addr).add j) = some u := fun j u hu => by
  rw [Addr.add_lit, Nat.zero_add, alloc_cell]
  simpa using hu
theorem fown_next {W w2 : World} {base k : Nat} {v v2 : Value} {xs ys : List Value} {e size m : Nat} {o : Obj} (hrow : W.ownsRow base e size v k xs) (hW : base ≤ W.heap.size)
    (_ : w2.ownsRow base e size v2 m ys) (hgrow : (W.alloc o).grownBy w2 v.ownBlock) : Below base W w2 :=
  (((Below.refl base W).alloc hW _)).grown hgrow (by simp; omega) (fun k e => (hrow.lt k e).1)

set_option maxRecDepth 100000 in
set_option maxHeartbeats 2000000 in
theorem told_any (b n : Nat) (D : DataW Value) (l : List TS) (w : World) (hown : w.ownsMap Try.prog 9 RH b n D) (hn : n ≤ 8) (hT : Tab D l) :
    Calls Try.prog 24 #[.map (some b)] w fun r w' => ∃ (v : Value) (ts : List TS), r = .returned v ∧ w'.ownsRow w.heap.size 55 6 v ts.length (flatL ts) ∧ Told l ts ∧ Below w.heap.size w w' := by
  have K : Keyed Try.prog 9 := string_keyed Try.underlying9
  have hsz : Maps.size D ≤ 8 := Nat.le_trans hown.size_le hn
  obtain ⟨i0, hi, hz0, hz1, hz2⟩ := info_parts infoLine
  have hbl := hown.lt
  have HOWN := hide hown
  have HKEYS := hide (fun (mb : Option Nat) (W : World) => callsIn_wide.1 (Try.maps_Keys_F mb W))
  have HSORT := hide (callsIn_wide.1 (Try.slices_Sorted_keys_F b n D RH w hown (by unfold maxLen; omega) (by omega)))
  have HT := hide hT
  have HSZ : Hid (∀ ss : List (List UInt8), ss.Perm (strKeys D) → ss.length ≤ 8) := hide (fun ss hp => by
    rw [hp.length_eq]
    obtain ⟨es, hD⟩ := hown.isMap
    rw [hD] at hsz ⊢
    simpa [strKeys, Maps.size] using hsz)
  clear hown hT hsz
  go_enter Try.func24, Try.ntmps24
  go_wp2_with (first
    | (go_at_call 46; refine (unhide HKEYS _ _).mono ?_; rintro e w' ⟨rfl, rfl⟩)
    | (go_at_call 45; refine (unhide HSORT).mono ?_; rintro e w1 ⟨v, ss, rfl, hS, hrow, hnil, hb⟩; obtain ⟨ts, hts, hTold, hat⟩ := told_plain (unhide HOWN) Try.underlying9 K (unhide HT) hS; rw [← hts] at hrow; obtain ⟨ao, cap, rfl, hcell⟩ := fown_keys hrow; have hlen := unhide HSZ ss hS; have htl : (ts.map key).length = ts.length := List.length_map ..; have hln : ts.length ≤ 8 := (by rw [← htl, hts, List.length_mergeSort]; exact hlen); have hbw : Below w.heap.size w w1 := ((Below.refl _ w).alloc (Nat.le_refl _) _).trans (hb.mono (by simp)); have hsz1 : w.heap.size ≤ w1.heap.size := hbw.size; have HCELL := hide hcell; have HTOLD := hide hTold; have HAT := hide hat; have HBW := hide hbw; clear hS hrow hnil hb hts hcell hTold hat hlen hbw HKEYS HSORT HT HSZ; rw [htl]; clear htl))
  go_loopw [3, 5, 10] (fun o _ i wr => ∃ k : Nat, k ≤ ts.length ∧ i = .int .i64 k ∧ wr.ownsRow w1.heap.size 55 6 o k (flatL (ts.take k)) ∧ Hid (Below w1.heap.size w1 wr)) (fun _ _ i _ => ts.length - (intOf i).toNat)
  case atStart => exact ⟨0, Nat.zero_le _, rfl, World.ownsRow_nil _ _ _ _, hide (Below.refl _ _)⟩
  case round =>
    obtain ⟨k, hk, rfl, hrow, HB⟩ := hrel
    by_cases hp : k < ts.length
    · obtain ⟨g, rfl, hg, hc⟩ := unhide HCELL k (by simpa using hp)
      have hmem : ts[k]'hp ∈ ts := List.getElem_mem hp
      have hc2 : wr.cell? ⟨g, k, none⟩ = some (encStr (key (ts[k]'hp))) := ((unhide HB).cell (p := ⟨g, k, none⟩) hg).trans (by rw [hc]; simp)
      obtain ⟨hat, hkl⟩ := unhide HAT _ hmem
      have hown2 := owns_below (owns_below (unhide HOWN) (unhide HBW) hbl) (unhide HB) (by omega)
      have htk : ts.take (k + 1) = ts.take k ++ [ts[k]] := List.take_succ_eq_append_getElem hp
      obtain ⟨s, hs⟩ : ∃ s, ts[k]'hp = s := ⟨_, rfl⟩
      rw [hs] at hc2 hat hkl htk
      have hks : encStr (key s) = .string s.name := by simp [encStr, key]
      rw [hks] at hc2
      obtain ⟨v, ps, hrun, hv⟩ := hown2.lookup K Try.underlying52 (Try.zeroValue55 wr) (zd := .held (.agg #[.string ⟨#[]⟩, .int .i64 0, .int .i64 0, .int .i64 0, .int .i64 0, .int .i64 0])) (zp := []) rfl (key := .string s.name) (kl := .string (key s)) (WideMaps.keyOf_string_mk Try.underlying9 (by simpa [key] using hkl))
      rw [hat] at hv
      have hvv : v = lineV s := by simp [RH] at hv; exact hv.1
      subst hvv
      obtain ⟨vs, cp, rfl⟩ := fown_slice hrow
      have HTK := hide htk
      have HROW := hide hrow
      clear hc hmem hat hkl hown2 htk hs hks hv
      go_wp2_with (at_builtin; refine wpList_append_own _ rfl _ _ 50 rfl w1.heap.size 55 i0 (.agg #[.string ⟨#[]⟩, .int .i64 0, .int .i64 0, .int .i64 0, .int .i64 0, .int .i64 0]) 6 56 Try.underlying50 hi hz0 hz1 hz2 rfl (by decide) _ _ _ rfl (hrow.alloc _) ⟨wr.heap.size, 0, none⟩ 1 1 (lineC s) rfl rfl (news_line wr s 55) (by simp [lineC, Value.oneCell']) (by unfold maxLen; omega) (by omega) (by have := (unhide HB).size; simp; omega) ?_; intro v2 w2 hown2 hgrow2 _; have hbb := fown_next (unhide HROW) (unhide HB).size hown2 hgrow2; have HO := hide hown2; have HBB := hide hbb; clear hown2 hgrow2 hbb hrow hrun hc2)
      go_roundw
      case rel => exact ⟨k + 1, by omega, by go_num, by rw [unhide HTK, flatL_snoc]; exact unhide HO, hide ((unhide HB).trans (unhide HBB))⟩
      case measure => simp [intOf] <;> omega
    · have e : k = ts.length := by omega
      subst e
      rw [List.take_length] at hrow
      obtain ⟨vs, cp, rfl⟩ := fown_slice hrow
      have HROW := hide hrow
      clear hrow
      go_wp2
      go_ret
      exact ⟨_, ts, rfl, fown_base (unhide HROW) hsz1, unhide HTOLD, (unhide HBW).trans ((unhide HB).mono hsz1)⟩
end Go.Proofs.Ytifcfjjlgehopaa
