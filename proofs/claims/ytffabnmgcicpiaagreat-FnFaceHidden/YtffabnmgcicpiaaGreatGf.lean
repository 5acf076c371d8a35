/- The walk of spec.FaceOf: the face of a module. Conditions: the module can be read, and weighs at most 2^20. -/
import Derived.Test.YtffabnmgcicpiaaGreatGd
import Derived.Test.YtffabnmgcicpiaaGreatGe
import Derived.Test.YtffabnmgcicpiaaGreatG5
namespace Go.Proofs.YtffabnmgcicpiaaGreat
open Go.RowKit Go.PlainAid

/-- A signature and its list of numbers, which can be read. -/
def GoodP (w : World) (p : TS × Value) : Prop := (p.1.name.size ≤ 8 ∧ p.1.args.length ≤ 4) ∧ ∃ lo, OwnI w lo w.heap.size p.2 p.1.args
theorem GoodP.kept {w w' : World} {p : TS × Value} (h : GoodP w p) (hb : Below w.heap.size w w') : GoodP w' p := by
  obtain ⟨h1, lo, h2⟩ := h
  exact ⟨h1, lo, h2.kept hb hb.size⟩
theorem GoodP.form {w : World} {p : TS × Value} (h : GoodP w p) : ∃ a l c, p.2 = .slice a l c := by
  obtain ⟨_, lo, a, cap, hv, _⟩ := h
  exact ⟨_, _, _, hv⟩
theorem putP_mem {p x : TS × Value} {L : List (TS × Value)} {k : Nat} (h : x ∈ putP p L k) : x = p ∨ x ∈ L := by
  unfold putP at h
  rcases List.mem_append.1 h with h | h
  · exact .inr (List.mem_of_mem_take h)
  · rcases List.mem_cons.1 h with h | h
    · exact .inl h
    · exact .inr (List.mem_of_mem_drop h)
theorem putP_len (p : TS × Value) (L : List (TS × Value)) (k : Nat) : (putP p L k).length = L.length + 1 := by
  unfold putP
  rw [List.length_append, List.length_cons, List.length_take, List.length_drop]
  omega
/-- A list of signatures as an answer that can be read. -/
def ReadL (w : World) (v : Value) (l : List TS) : Prop := ∃ (a : Option Addr) (cap : Nat), v = .slice a l.length cap ∧ IsSigs (IsSig w 0 w.heap.size) w 0 w.heap.size a l
theorem ReadL.of {w : World} {base g cap : Nat} {L : List (TS × Value)} (hrow : w.ownsRow base 52 3 (.slice (some ⟨g, 0, none⟩) L.length cap) L.length (flatP L)) (hg : ∀ p ∈ L, GoodP w p) : ReadL w (.slice (some ⟨g, 0, none⟩) L.length cap) (L.map Prod.fst) := by
  refine ⟨some ⟨g, 0, none⟩, cap, by rw [List.length_map], .inr ⟨g, 0, rfl, Nat.zero_le _, (hrow.lt g rfl).2, fun j hj => ?_⟩⟩
  have hj' : j < L.length := by simpa using hj
  have hc : ∀ i u, (flatP L)[i]? = some u → w.cell? ⟨g, i, none⟩ = some u := fun i u hu => by
    have := hrow.cells (g := g) rfl i u hu
    rwa [Addr.add_lit, Nat.zero_add] at this
  obtain ⟨h1, h2, h3⟩ := flatP_at L j hj'
  rw [Nat.zero_add]
  obtain ⟨hz, lo, ho⟩ := hg _ (List.getElem_mem hj')
  obtain ⟨a, c, hv, hI⟩ := ho.ints
  rw [List.getElem_map]
  exact ⟨_, _, _, hc _ _ h1, hc _ _ h2, hc _ _ h3, a, c, by rw [hv], ⟨by unfold maxLen; omega, by unfold maxLen; omega⟩, hI.same (fun _ _ _ => rfl) (Nat.zero_le _) (Nat.le_refl _)⟩

set_option maxRecDepth 100000 in
set_option maxHeartbeats 8000000 in
theorem FaceOfS_any (lo h : Nat) (v : Value) (m : TM) (w : World) (hM : IsMod w lo w.heap.size h v m) (hwt : m.wt ≤ 1048576) :
    Calls Tryz.prog 8 #[v] w fun r w' => ∃ v' : Value, r = .returned v' ∧ ReadL w' v' (faceL m) ∧ Below w.heap.size w w' := by
  have HOK := hide (fun (W : World) (hb : Below w.heap.size w W) => TreeOkS_any lo h v m W (IsMod.kept h hb hb.size _ _ hM) hwt)
  have HX : Hid (faceL m = if m.okB = true then putAll (pubs m.funs) else []) := hide rfl
  have HFN := hide (@ok_funs m)
  generalize faceL m = R at HX ⊢
  generalize m.okB = ok at HOK HX HFN
  obtain ⟨us, fs, mn⟩ := m
  obtain ⟨a1, a2, a3, k1, k2, k3, rfl, ⟨_, hz2', _, _, _⟩, _, q2, _⟩ := hM
  dsimp only at hz2' q2 HX HFN HOK
  have HFS := hide (fun (W : World) (hb : Below w.heap.size w W) => q2.kept hb hb.size)
  unfold maxLen at hz2'
  clear q2 hwt
  have NB : Hid (Blk ((w.alloc (.cells [Value.slice a1 us.length k1, Value.slice a2 fs.length k2, Value.slice a3 mn.length k3].toArray 27)).alloc (.cells #[] 52)) w.heap.size [Value.slice a1 us.length k1, Value.slice a2 fs.length k2, Value.slice a3 mn.length k3]) := hide ((Blk.new w [Value.slice a1 us.length k1, Value.slice a2 fs.length k2, Value.slice a3 mn.length k3] 27).old _ (by simp))
  have HW0 : Hid (Below w.heap.size w ((w.alloc (.cells [Value.slice a1 us.length k1, Value.slice a2 fs.length k2, Value.slice a3 mn.length k3].toArray 27)).alloc (.cells #[] 52))) := hide ((below_newG w (.cells [Value.slice a1 us.length k1, Value.slice a2 fs.length k2, Value.slice a3 mn.length k3].toArray 27)).alloc (by simp) _)
  have HR0 : Hid (((w.alloc (.cells [Value.slice a1 us.length k1, Value.slice a2 fs.length k2, Value.slice a3 mn.length k3].toArray 27)).alloc (.cells #[] 52)).ownsRow w.heap.size 52 3 (.slice (some ⟨w.heap.size + 1, 0, none⟩) 0 0) 0 []) := hide (by
    have := World.ownsRow_lit (base := w.heap.size) (e := 52) (size := 3) (w.alloc (.cells [Value.slice a1 us.length k1, Value.slice a2 fs.length k2, Value.slice a3 mn.length k3].toArray 27)) #[] 0 (by simp) (Nat.zero_le _) rfl
    rw [alloc_size] at this
    exact this)
  go_enter Tryz.func8, Tryz.ntmps8
  go_wp2_with fail
  refine (unhide HOK _ (unhide HW0)).mono ?_
  rintro r w2 ⟨rfl, hb2⟩
  have HB2 := hide ((unhide HW0).trans (hb2.mono (unhide HW0).size))
  have N2 := hide ((unhide NB).below hb2 (by simp; omega))
  have HR2 := hide (own_keptN (unhide HR0) hb2)
  have HS2 : Hid (w.heap.size < w2.heap.size) := hide (by have := hb2.size; rw [alloc_size, alloc_size] at this; omega)
  clear hb2 HOK HW0 NB HR0
  cases ok with
  | false =>
    have HRR : Hid (R = []) := hide (by rw [unhide HX]; rfl)
    clear HX HFN
    go_wp2
    go_ret
    refine ⟨_, rfl, ?_, unhide HB2⟩
    rw [unhide HRR]
    exact ⟨_, 0, rfl, .inl rfl⟩
  | true =>
  have HX2 : Hid (R = putAll (pubs fs)) := hide (by rw [unhide HX]; rfl)
  obtain ⟨h8, hfn, hpw⟩ := unhide HFN rfl
  have HFF := hide hfn
  have H8 := hide h8
  clear HX HFN hfn hpw
  go_wp2
  go_loopw [3, 4] (fun o i wr => ∃ (k g cap : Nat) (L : List (TS × Value)), k ≤ fs.length ∧ L.length ≤ k ∧ i = .int .i64 k ∧ o = .slice (some ⟨g, 0, none⟩) L.length cap ∧ Hid (wr.ownsRow w.heap.size 52 3 (.slice (some ⟨g, 0, none⟩) L.length cap) L.length (flatP L)) ∧ Hid (∀ p ∈ L, GoodP wr p) ∧ Hid (putAll (pubs (fs.take k)) = L.map Prod.fst) ∧ Hid (Below w2.heap.size w2 wr)) (fun _ i _ => fs.length - (intOf i).toNat)
  case atStart => exact ⟨0, w.heap.size + 1, 0, [], Nat.zero_le _, Nat.le_refl _, rfl, rfl, HR2, hide (fun p hp => by cases hp), hide rfl, hide (Below.refl _ _)⟩
  case round =>
    obtain ⟨k, g, cap, L, hk, hlk, rfl, rfl, HROW, HG, HP, HB⟩ := hrel
    have HWR := hide ((unhide HB2).trans ((unhide HB).mono (unhide HB2).size))
    have p1 := ((unhide N2).below (unhide HB) (unhide HS2)).cellAt (i := 1) rfl
    by_cases hp : k < fs.length
    · rcases unhide HFS _ (unhide HWR) with hq | ⟨b, off, rfl, hbl, hbn, hcs⟩
      · rw [hq] at hp; simp at hp
      obtain ⟨c0, c1, c2, c3, c4, c5, c6, c7, c8, d0, d1, d2, d3, d4, d5, d6, d7, d8, hr⟩ := hcs k hp
      have hfk := unhide HFF _ (List.getElem_mem hp)
      have htk : fs.take (k + 1) = fs.take k ++ [fs[k]] := List.take_succ_eq_append_getElem hp
      obtain ⟨x, hx⟩ : ∃ x, fs[k]'hp = x := ⟨_, rfl⟩
      rw [hx] at hr hfk htk
      have hsn := pubs_snoc (fs.take k) x
      rw [← htk] at hsn
      obtain ⟨xs, xp, xa, xl, xc, xt, xk, xm, xn, xd, ya, yl, yc, rfl, rfl, rfl, rfl, rfl, rfl, rfl, rfl, rfl⟩ := IsFun.form h hr
      have hxp : x.pub = xp := by
        obtain ⟨_, _, _, _, _, _, _, hv, _⟩ := hr
        simp only [Value.agg.injEq, Array.mk.injEq, List.cons.injEq, Value.string.injEq, Value.bool.injEq] at hv
        exact hv.2.1.symm
      rw [hxp] at hsn
      have HSN := hide hsn
      have HFO := hide (l3Of_any lo h _ x wr hr (by have := hfk.1; omega))
      have HZZ : Hid ((sigOf x).name.size ≤ 8 ∧ (sigOf x).args.length ≤ 4) := hide ⟨hfk.2.2, by have := hfk.1; simpa [sigOf] using this⟩
      clear hcs hr hx hfk htk hsn hxp
      cases xp with
      | false =>
        have HTT : Hid (putAll (pubs (fs.take (k + 1))) = L.map Prod.fst) := hide (by rw [unhide HSN]; simpa using unhide HP)
        clear HFO
        go_wp2
        go_roundw
        case rel => exact ⟨k + 1, g, cap, L, by omega, by omega, by go_num, rfl, HROW, HG, HTT, HB⟩
        case measure => simp [intOf]; omega
      | true =>
        have HTT : Hid (putAll (pubs (fs.take (k + 1))) = putR (sigOf x) (putAll (pubs (fs.take k)))) := hide (by rw [unhide HSN]; simp only [if_true]; exact putAll_snoc _ _)
        unfold OwnSig at HFO
        obtain ⟨s, hs⟩ : ∃ s, sigOf x = s := ⟨_, rfl⟩
        rw [hs] at HFO HTT HZZ
        clear hs
        go_wp2_with fail
        refine (unhide HFO).mono ?_
        rintro r w5 ⟨v5, rfl, ho5, hb5⟩
        obtain ⟨a5, c5', hv5, -⟩ := id ho5
        subst hv5
        have HO5 := hide ho5
        have HB5 := hide hb5
        have HPT := hide (l3Put_any w.heap.size g cap L s a5 s.args.length c5' w5 (own_keptN (unhide HROW) hb5) (fun p hp => (unhide HG p hp).form) (by have := unhide H8; omega))
        clear ho5 hb5 HFO d0 d1 d2 d3 d4 d5 d6 d7 d8 p1
        go_wp2_with fail
        refine (unhide HPT).mono ?_
        rintro r w6 ⟨g6, cap6, k6, rfl, ho6, hput, hb6⟩
        have HB6 := hide ((unhide HB).trans (((unhide HB5).trans (hb6.mono (unhide HB5).size)).mono (unhide HB).size))
        have HP6 : Hid (putAll (pubs (fs.take (k + 1))) = (putP (s, .slice a5 s.args.length c5') L k6).map Prod.fst) := hide (by rw [unhide HTT, unhide HP]; exact hput)
        have HG6 : Hid (∀ p ∈ putP (s, .slice a5 s.args.length c5') L k6, GoodP w6 p) := hide (fun p hp => by
          rcases putP_mem hp with rfl | hp
          · exact GoodP.kept ⟨unhide HZZ, _, unhide HO5⟩ hb6
          · exact ((unhide HG p hp).kept (unhide HB5)).kept hb6)
        have HR6 : Hid (w6.ownsRow w.heap.size 52 3 (.slice (some ⟨g6, 0, none⟩) (putP (s, .slice a5 s.args.length c5') L k6).length cap6) (putP (s, .slice a5 s.args.length c5') L k6).length (flatP (putP (s, .slice a5 s.args.length c5') L k6))) := hide (by
          rw [putP_len]
          exact own_lowerE ho6 (by have := (unhide HWR).size; have := (unhide HB5).size; omega))
        clear ho6 hput hb6 HPT
        go_wp2
        go_roundw
        case rel => exact ⟨k + 1, g6, cap6, putP (s, .slice a5 s.args.length c5') L k6, by omega, by rw [putP_len]; omega, by go_num, by rw [putP_len], HR6, HG6, HP6, HB6⟩
        case measure => simp [intOf]; omega
    · have hek : k = fs.length := by omega
      subst hek
      have HPP := unhide HP
      rw [List.take_of_length_le (Nat.le_refl _)] at HPP
      have HRR : Hid (R = L.map Prod.fst) := hide ((unhide HX2).trans HPP)
      have HRD := hide (ReadL.of (unhide HROW) (unhide HG))
      clear HPP
      go_wp2
      go_ret
      refine ⟨_, rfl, ?_, unhide HWR⟩
      rw [unhide HRR]
      exact unhide HRD
end Go.Proofs.YtffabnmgcicpiaaGreat
