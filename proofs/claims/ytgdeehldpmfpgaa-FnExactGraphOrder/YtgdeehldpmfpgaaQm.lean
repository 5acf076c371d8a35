/- spec.GraphBehind: what it is, plain, and its walk. Conditions: the nodes and the names can be read. -/
import Derived.Test.YtgdeehldpmfpgaaQl
import Derived.Deep.AppendSrc
namespace Go.Proofs.Ytgdeehldpmfpgaa
open Go.RowKit Go.PlainAid

/-- That there is such a node with this name. -/
noncomputable def reachB (l : List TG) (names : List ByteArray) (s : ByteArray) : Bool := @decide (∃ m, ReachG l names m ∧ (m.name.toList == s.toList) = true) (Classical.propDecidable _)
theorem GrowP.reach {l : List TG} {names out : List ByteArray} (h : GrowP l names out) (s : ByteArray) : hasW out s = reachB l names s := by
  have h1 := h.has s
  cases hh : hasW out s with
  | true => exact (@decide_eq_true _ (Classical.propDecidable _) (h1.1 hh)).symm
  | false => exact (@decide_eq_false _ (Classical.propDecidable _) (fun e => by rw [h1.2 e] at hh; cases hh)).symm
/-- The names of those among the first k that are so. -/
def pickG (p : TG → Bool) (l : List TG) (k : Nat) : List ByteArray := ((l.take k).filter p).map TG.name
theorem pickG_zero (p : TG → Bool) (l : List TG) : pickG p l 0 = [] := by simp [pickG]
theorem pickG_all (p : TG → Bool) (l : List TG) {k : Nat} (h : l.length ≤ k) : pickG p l k = (l.filter p).map TG.name := by unfold pickG; rw [List.take_of_length_le h]
theorem pickG_yes {p : TG → Bool} {l : List TG} {k : Nat} (hk : k < l.length) (h : p l[k] = true) : pickG p l (k + 1) = pickG p l k ++ [l[k].name] := by
  unfold pickG
  rw [List.take_succ_eq_append_getElem hk, List.filter_append, List.map_append]
  simp [h]
theorem pickG_no {p : TG → Bool} {l : List TG} {k : Nat} (hk : k < l.length) (h : p l[k] = false) : pickG p l (k + 1) = pickG p l k := by
  unfold pickG
  rw [List.take_succ_eq_append_getElem hk, List.filter_append, List.map_append]
  simp [h]
theorem pickG_len (p : TG → Bool) (l : List TG) (k : Nat) : (pickG p l k).length ≤ l.length := by
  unfold pickG
  rw [List.length_map]
  exact Nat.le_trans (List.length_filter_le _ _) (by rw [List.length_take]; omega)
/-- What GraphBehind answers. -/
noncomputable def behindR (l : List TG) (names : List ByteArray) : List ByteArray := if graphB l then (l.filter (fun n => reachB l names n.name || hasW names n.name)).map TG.name else []
/-- What GraphRound answers. -/
noncomputable def roundR (l : List TG) : List ByteArray := if graphB l then (l.filter (fun n => reachB l [n.name] n.name)).map TG.name else []

/-- A row of words that append makes: empty as it was laid, or in a block from base on. -/
def RowG (X : World) (base B : Nat) (v : Value) (l : List ByteArray) : Prop := (v = .slice (some ⟨B, 0, none⟩) 0 0 ∧ l = []) ∨ X.ownsRow base 9 1 v l.length (l.map Value.string)
theorem RowG.wds {X : World} {base B m : Nat} {v : Value} {l : List ByteArray} (h : RowG X base B v l) (hm : m ≤ base) : ∃ (a : Option Addr) (cap : Nat), v = .slice a l.length cap ∧ IsWds X m X.heap.size a l := by
  rcases h with ⟨rfl, rfl⟩ | h
  · exact ⟨_, 0, rfl, .inl rfl⟩
  · obtain ⟨a, cap, hv, hI⟩ := own_wdsG h rfl
    exact ⟨a, cap, hv, hI.same (fun _ _ _ => rfl) hm (Nat.le_refl _)⟩
theorem RowG.kept {X X' : World} {base B : Nat} {v : Value} {l : List ByteArray} (h : RowG X base B v l) (hb : Below X.heap.size X X') : RowG X' base B v l := by
  rcases h with h | h
  · exact .inl h
  · exact .inr (own_keptG h hb)
theorem run_app_str (X : World) (base B : Nat) (v : Value) (l : List ByteArray) (s : ByteArray) (D c : Nat) (h : RowG X base B v l) (hD : X.cell? ⟨D, 0, none⟩ = some (.string s)) (hl : l.length ≤ 8) (hb : base ≤ X.heap.size) :
    ∃ v' X', (Builtin.append_ #[25, 25] 25 #[v, .slice (some ⟨D, 0, none⟩) 1 c]).run Try.prog X = .ok v' X' ∧ RowG X' base B v' (l ++ [s]) ∧ Below base X X' := by
  obtain ⟨i0, hi, hz0, hz1, hz2⟩ := info_parts wsinfo
  have hnews : ∀ j u, [Value.string s][j]? = some u → X.cell? ((⟨D, 0, none⟩ : Addr).add j) = some u := fun j u hu => by
    cases j with
    | zero => rw [Addr.add_lit]; simp at hu; subst hu; exact hD
    | succ j => simp at hu
  rcases h with ⟨rfl, rfl⟩ | h
  · have hr := run_append_grow (P := Try.prog) X 25 25 9 i0 (.string ⟨#[]⟩) Try.underlying25 hi hz0 ⟨B, 0, none⟩ 0 0 [] (by simp) (fun j u hu => by simp at hu) ⟨D, 0, none⟩ 1 c [.string s] (by rw [hz1]; rfl) hnews (by omega) (by omega) (growslice_fits (by omega) (by rw [hz2]; omega))
    refine ⟨_, _, hr, .inr ⟨by simp, .inr ⟨X.heap.size, _, _, rfl, hb, heap_alloc_new X.drew _, ?_, ?_, ?_, ?_⟩⟩, (Below.refl _ X).drew.alloc hb _⟩
    · exact grownCap_ge X (0 + 1) 0 9
    · exact grownCap_le_maxLen X (0 + 1) 0 9 (by unfold maxLen; omega)
    · have hge := grownCap_ge X (0 + 1) 0 9
      have hz : (Value.cells (.string ⟨#[]⟩)).size = 1 := rfl
      simp only [Array.size_append, List.size_toArray, size_zeroCells, hz, List.length_nil, List.length_cons]
      omega
    · simp
  · obtain ⟨v', X', hr, hown, hg, _⟩ := run_append_own (P := Try.prog) X base 25 25 9 i0 (.string ⟨#[]⟩) 1 16 Try.underlying25 hi hz0 hz1 hz2 rfl (by decide) v l.length (l.map Value.string) h ⟨D, 0, none⟩ 1 c [.string s] rfl hnews (by simp [Value.oneCell']) (by unfold maxLen; omega) (by omega) hb
    refine ⟨v', X', hr, .inr ?_, (Below.refl _ X).grown hg hb (fun k hk => (h.lt k hk).1)⟩
    have hlen : (l ++ [s]).length = l.length + 1 := by simp
    rw [hlen, List.map_append]
    exact hown
theorem wpList_app_str {ops : Array Oper} {rest : List Oper} {o : Oper} {a : Act} {Q : Exit → Act → World → Prop} (X : World) (hgd : o.guard = none) (e x : Operand)
    (ho : o.op = .call { callee := .builtin .append, args := #[e, x], argTypes := #[25, 25] }) (hty : o.type = 25) (base B : Nat) (v : Value) (l : List ByteArray) (s : ByteArray) (D c : Nat) (hs : a.eval e = v) (hx : a.eval x = .slice (some ⟨D, 0, none⟩) 1 c)
    (hR : RowG X base B v l) (hD : X.cell? ⟨D, 0, none⟩ = some (.string s)) (hl : l.length ≤ 8) (hb : base ≤ X.heap.size)
    (h : ∀ v' X', RowG X' base B v' (l ++ [s]) → Below base X X' → wpList Try.prog ops Q rest (a.put o.dst v') X') : wpList Try.prog ops Q (o :: rest) a X :=
  wpList_plain hgd fun _ hK => by
    obtain ⟨v', w', hr, h2, h3⟩ := run_app_str X base B v l s D c hR hD hl hb
    unfold Oper.wp execOp
    simp only [ho, hty, resolve, invoke, builtin, Sem.run_bind, Sem.run_pure, Result.andThen_ok, List.map_toArray, List.map_cons, List.map_nil, hs, hx, hr]
    exact hK _ _ (h v' w' h2 h3)

set_option maxRecDepth 100000 in
set_option maxHeartbeats 2000000 in
theorem GraphBehindS_any (lo lo2 : Nat) (a : Option Addr) (cap : Nat) (l : List TG) (na : Option Addr) (ncap : Nat) (names : List ByteArray) (w : World) (hk : IsGns (IsGn w lo w.heap.size) w lo w.heap.size a l) (hl : l.length ≤ maxLen) (hN : IsWds w lo2 w.heap.size na names) (hnl : names.length ≤ maxLen) :
    Calls Try.prog 20 #[.slice a l.length cap, .slice na names.length ncap] w fun r w' => ∃ (a' : Option Addr) (cap' : Nat), r = .returned (.slice a' (behindR l names).length cap') ∧ IsWds w' w.heap.size w'.heap.size a' (behindR l names) ∧ Below w.heap.size w w' := by
  have HK := hide hk
  have HNM := hide hN
  have HNL := hide hnl
  have HOK := hide (fun (W' : World) (hb : Below w.heap.size w W') => GraphOkS_any lo a cap l W' (hk.kept hb hb.size) hl)
  have HEM : Hid (graphB l = false → behindR l names = []) := hide (fun h => by unfold behindR; rw [h]; rfl)
  have HFU : Hid (graphB l = true → behindR l names = (l.filter (fun n => reachB l names n.name || hasW names n.name)).map TG.name) := hide (fun h => by unfold behindR; rw [h]; rfl)
  have H8 : Hid (graphB l = true → l.length ≤ 8) := hide (fun h => by
    by_cases g : GoodG l
    · exact g.1
    · rw [graphB_no g] at h; cases h)
  obtain ⟨R, hR⟩ : ∃ R, behindR l names = R := ⟨_, rfl⟩
  rw [hR] at HEM HFU ⊢
  obtain ⟨B, hB⟩ : ∃ B, graphB l = B := ⟨_, rfl⟩
  rw [hB] at HOK HEM HFU H8
  obtain ⟨W, hW⟩ : ∃ W, W = w.alloc (.cells #[] 9) := ⟨_, rfl⟩
  have HBW : Hid (Below w.heap.size w W) := hide (by rw [hW]; exact (Below.refl _ _).alloc (Nat.le_refl _) _)
  clear hk hR hB hN hnl hl
  go_enter Try.func20, Try.ntmps20
  go_wp2_with fail
  rw [← hW]
  clear hW
  refine (unhide HOK _ (unhide HBW)).mono ?_
  rintro r w2 ⟨rfl, hb2⟩
  have HB2 := hide ((unhide HBW).trans (hb2.mono (unhide HBW).size))
  clear hb2 HOK HBW
  cases B with
  | false =>
    have HX := hide (unhide HEM rfl)
    go_wp2
    go_ret
    obtain rfl := unhide HX
    exact ⟨_, _, rfl, .inl rfl, unhide HB2⟩
  | true =>
    have HX := hide (unhide HFU rfl)
    have hl8 := unhide H8 rfl
    have HGW := hide (l5Grow_any lo lo2 a cap l na ncap names w2 ((unhide HK).kept (unhide HB2) (unhide HB2).size) hl8 ((unhide HNM).kept (unhide HB2) (unhide HB2).size) (unhide HNL))
    clear HFU HEM H8
    go_wp2_with fail
    refine (unhide HGW).mono ?_
    rintro r w3 ⟨gr, ga, gc, rfl, hgi, hgp, hg8, hb3⟩
    have HGI := hide hgi
    have HGP := hide hgp
    have HB3 := hide ((unhide HB2).trans (hb3.mono (unhide HB2).size))
    clear HGW hgi hgp hb3 HB2
    go_wp2
    go_loopw [5, 7] (fun v5 v7 wq => ∃ (k : Nat) (out : List ByteArray) (so : Option Addr) (cp : Nat), k ≤ l.length ∧ v7 = .int .i64 k ∧ v5 = .slice so out.length cp ∧ Hid (out = pickG (fun n => reachB l names n.name || hasW names n.name) l k) ∧ Hid (RowG wq w3.heap.size w.heap.size (.slice so out.length cp) out) ∧ Hid (Below w3.heap.size w3 wq)) (fun _ v7 _ => l.length - (intOf v7).toNat)
    case atStart => exact ⟨0, [], some ⟨w.heap.size, 0, none⟩, 0, Nat.zero_le _, rfl, rfl, hide (pickG_zero _ _).symm, hide (.inl ⟨rfl, rfl⟩), hide (Below.refl _ _)⟩
    case round =>
      obtain ⟨k, out, so, cp, hk, rfl, rfl, HOUT, HROW, HB⟩ := hrel
      have HBW := hide ((unhide HB3).trans ((unhide HB).mono (unhide HB3).size))
      by_cases hp : k < l.length
      · rcases (unhide HK).kept (unhide HBW) (unhide HBW).size with hq | ⟨b, off, rfl, hbl, hbn, hcs⟩
        · rw [hq] at hp; simp at hp
        obtain ⟨c0, c1, d0, d1, hr⟩ := hcs k hp
        have HY := hide (fun he => (pickG_yes (p := fun n => reachB l names n.name || hasW names n.name) hp he))
        have HNO := hide (fun he => (pickG_no (p := fun n => reachB l names n.name || hasW names n.name) hp he))
        obtain ⟨x, hx⟩ : ∃ x, l[k]'hp = x := ⟨_, rfl⟩
        rw [hx] at hr HY HNO
        have hol2 : out.length ≤ 8 := by rw [unhide HOUT]; exact Nat.le_trans (pickG_len _ _ _) hl8
        have HH1 := hide (l5Has_any _ ga gc gr x.name wr ((unhide HGI).kept (unhide HB) (unhide HB).size) (by unfold maxLen; omega))
        have HH2 := hide (l5Has_any _ na ncap names x.name wr ((unhide HNM).kept (unhide HBW) (unhide HBW).size) (unhide HNL))
        rw [(unhide HGP).reach] at HH1
        obtain ⟨aa, ca, hv, hzz, _⟩ := hr
        simp only [Value.agg.injEq, Array.mk.injEq, List.cons.injEq, and_true] at hv
        obtain ⟨rfl, rfl⟩ := hv
        obtain ⟨u1, hu1⟩ : ∃ u1, reachB l names x.name = u1 := ⟨_, rfl⟩
        obtain ⟨u2, hu2⟩ : ∃ u2, hasW names x.name = u2 := ⟨_, rfl⟩
        rw [hu1] at HH1 HY HNO
        rw [hu2] at HH2 HY HNO
        rw [← unhide HOUT] at HY HNO
        clear hcs hx hzz hu1 hu2 HOUT
        go_wp2_with fail
        refine (unhide HH1).mono ?_
        rintro r w4 ⟨rfl, rfl⟩
        clear HH1
        cases u1 with
        | true =>
          have HE := hide (unhide HY rfl)
          clear HY HNO HH2
          go_wp2_with (at_builtin; refine wpList_app_str _ rfl _ _ rfl rfl w3.heap.size w.heap.size _ out x.name wr.heap.size 1 rfl rfl ((unhide HROW).kept ((Below.refl _ _).alloc (Nat.le_refl _) _)) (by rw [alloc_cell]; rfl) hol2 (by have := (unhide HB).size; simp; omega) ?_; intro v7 w7 hrow7 hbel7; have HB7 := hide ((unhide HB).trans (((Below.refl _ wr).alloc (unhide HB).size (.cells #[.string x.name] 9)).trans hbel7)); have HW7 := (hrow7.wds (Nat.le_refl _)); have HO7 := hide hrow7; clear hrow7 hbel7; obtain ⟨so7, cp7, rfl, hI7⟩ := HW7; clear hI7)
          go_roundw
          case rel => exact ⟨k + 1, out ++ [x.name], so7, cp7, by omega, by go_num, by rw [List.length_append]; rfl, hide (unhide HE).symm, HO7, HB7⟩
          case measure => simp [intOf]; omega
        | false =>
          go_wp2_with fail
          refine (unhide HH2).mono ?_
          rintro r w4 ⟨rfl, rfl⟩
          clear HH2
          cases u2 with
          | true =>
            have HE := hide (unhide HY rfl)
            clear HY HNO
            go_wp2_with (at_builtin; refine wpList_app_str _ rfl _ _ rfl rfl w3.heap.size w.heap.size _ out x.name wr.heap.size 1 rfl rfl ((unhide HROW).kept ((Below.refl _ _).alloc (Nat.le_refl _) _)) (by rw [alloc_cell]; rfl) hol2 (by have := (unhide HB).size; simp; omega) ?_; intro v7 w7 hrow7 hbel7; have HB7 := hide ((unhide HB).trans (((Below.refl _ wr).alloc (unhide HB).size (.cells #[.string x.name] 9)).trans hbel7)); have HW7 := (hrow7.wds (Nat.le_refl _)); have HO7 := hide hrow7; clear hrow7 hbel7; obtain ⟨so7, cp7, rfl, hI7⟩ := HW7; clear hI7)
            go_roundw
            case rel => exact ⟨k + 1, out ++ [x.name], so7, cp7, by omega, by go_num, by rw [List.length_append]; rfl, hide (unhide HE).symm, HO7, HB7⟩
            case measure => simp [intOf]; omega
          | false =>
            have HE := hide (unhide HNO rfl)
            clear HY HNO
            go_wp2
            go_roundw
            case rel => exact ⟨k + 1, out, so, cp, by omega, by go_num, rfl, hide (unhide HE).symm, HROW, HB⟩
            case measure => simp [intOf]; omega
      · have HALL : Hid (R = out) := hide (by rw [unhide HX, unhide HOUT]; exact (pickG_all _ _ (by omega)).symm)
        have HWD := hide ((unhide HROW).wds (unhide HB3).size)
        go_wp2
        go_ret
        obtain ⟨a', c', e, hI⟩ := unhide HWD
        cases e
        obtain rfl := unhide HALL
        first | exact ⟨so, ⟨cp, rfl⟩, hI, unhide HBW⟩ | exact ⟨_, _, rfl, hI, unhide HBW⟩
end Go.Proofs.Ytgdeehldpmfpgaa
