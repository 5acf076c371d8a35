/- A region that draws its order, walked by an invariant: one step for each operation, whatever the order. No conditions. -/
import Derived.Test.YtffabnmgcicpiaaGreatPlain
import Derived.RegionTactic
import Derived.NoCompiler
namespace Go.Proofs.YtffabnmgcicpiaaGreat
open Go.RowKit Go.PlainAid

/-- One more is listed. -/
def updL (L : Nat → Bool) (i : Nat) : Nat → Bool := fun j => if j = i then true else L j
/-- One slot more is written. -/
def updU (us : Nat → Value) (t : Nat) (v : Value) : Nat → Value := fun j => if j = t then v else us j
theorem updL_same (L : Nat → Bool) (i : Nat) : updL L i i = true := if_pos rfl
theorem updL_other (L : Nat → Bool) (i j : Nat) (h : j ≠ i) : updL L i j = L j := if_neg h
theorem updU_same (us : Nat → Value) (t : Nat) (v : Value) : updU us t v t = v := if_pos rfl
theorem updU_other (us : Nat → Value) (t j : Nat) (v : Value) (h : j ≠ t) : updU us t v j = us j := if_neg h
/-- The slots that the region writes stand open. -/
def frmFrom (us : Nat → Value) (ds : Nat → Bool) : Nat → List Value → List Value
  | _, [] => []
  | k, v :: t => (if ds k = true then us k else v) :: frmFrom us ds (k + 1) t
theorem frmFrom_at (us : Nat → Value) (ds : Nat → Bool) : ∀ (l : List Value) (k j : Nat), (frmFrom us ds k l)[j]? = (l[j]?).map fun v => if ds (k + j) = true then us (k + j) else v
  | [], k, j => by simp [frmFrom]
  | v :: t, k, 0 => by simp [frmFrom]
  | v :: t, k, j + 1 => by
    simp only [frmFrom, List.getElem?_cons_succ]
    rw [frmFrom_at us ds t (k + 1) j, show k + 1 + j = k + (j + 1) by omega]
theorem frm_self (l : List Value) (ds : Nat → Bool) : frmFrom (fun t => l.getD t undef) ds 0 l = l := by
  apply List.ext_getElem?
  intro j
  rw [frmFrom_at, Nat.zero_add]
  cases h : l[j]? with
  | none => simp
  | some v =>
    simp only [Option.map_some]
    split
    · rw [List.getD_eq_getElem?_getD, h]; rfl
    · rfl
/-- All operations of a list, each by its place. -/
def OpsAll (p : Nat → Oper → Prop) : Nat → List Oper → Prop
  | _, [] => True
  | k, o :: t => p k o ∧ OpsAll p (k + 1) t
theorem OpsAll.at {p : Nat → Oper → Prop} : ∀ {l : List Oper} {k : Nat}, OpsAll p k l → ∀ (i : Nat) (o : Oper), l[i]? = some o → p (k + i) o
  | [], _, _, i, o, h => by simp at h
  | x :: t, k, h, 0, o, hi => by simp at hi; subst hi; exact h.1
  | x :: t, k, h, i + 1, o, hi => by
    have := OpsAll.at h.2 i o (by simpa using hi)
    rw [show k + 1 + i = k + (i + 1) by omega] at this
    exact this
/-- What is written ahead stands ahead of each operation. -/
def earlier : Nat → List Oper → Bool
  | _, [] => true
  | k, o :: t => o.after.all (fun e => decide (e.on < k)) && earlier (k + 1) t
theorem earlier_at : ∀ {l : List Oper} {k : Nat}, earlier k l = true → ∀ (i : Nat) (o : Oper), l[i]? = some o → ∀ e ∈ o.after, e.on < k + i
  | [], _, _, i, o, h => by simp at h
  | x :: t, k, h, 0, o, hi => by
    simp at hi; subst hi
    simp only [earlier, Bool.and_eq_true, Array.all_eq_true] at h
    intro e he
    obtain ⟨j, hj, rfl⟩ := Array.mem_iff_getElem.1 he
    have := h.1 j hj
    simpa using this
  | x :: t, k, h, i + 1, o, hi => by
    simp only [earlier, Bool.and_eq_true] at h
    have := earlier_at h.2 i o (by simpa using hi)
    intro e he
    have := this e he
    omega
section
variable {P : Program} {Q : Exit → Act → World → Prop}
theorem ready_nil {md : Region.Mode} {ops : Array Oper} {listed : Array Bool} (hsz : listed.size = ops.size) (he : ∀ (i : Nat) (o : Oper), ops[i]? = some o → ∀ e ∈ o.after, e.on < i) (h : Region.ready md ops listed = []) : ∀ i, i < ops.size → listed.getD i true = true := by
  intro i
  induction i using Nat.strongRecOn with
  | ind i ih =>
    intro hi
    cases hl : listed.getD i true with
    | true => rfl
    | false =>
      exfalso
      have hm : i ∈ Region.ready md ops listed := by
        unfold Region.ready
        refine List.mem_filter.2 ⟨List.mem_range.2 hi, ?_⟩
        have ho : ops[i]? = some ops[i] := Array.getElem?_eq_getElem hi
        rw [hl, ho]
        simp only [Bool.not_false, Option.map_some, Option.getD_some, Bool.true_and, Array.all_eq_true]
        intro j hj
        have he1 := he i _ ho _ (Array.getElem_mem hj)
        have h2 := ih _ he1 (by omega)
        have h3 : listed.getD (ops[i].after[j]).on false = true := by
          have hlt : (ops[i].after[j]).on < listed.size := by omega
          rw [Array.getD_eq_getD_getElem?, Array.getElem?_eq_getElem hlt] at h2 ⊢
          exact h2
        rw [h3]; simp
      rw [h] at hm
      cases hm
def unlisted (listed : Array Bool) : Nat := listed.toList.count false
theorem unlisted_set {listed : Array Bool} {i : Nat} (hi : i < listed.size) (h : listed.getD i true = false) : unlisted (listed.setIfInBounds i true) + 1 = unlisted listed := by
  unfold unlisted
  rw [Array.toList_setIfInBounds]
  have hl : listed.toList[i]? = some false := by
    rw [Array.getD_eq_getD_getElem?, Array.getElem?_eq_getElem hi] at h
    have h' : listed[i] = false := h
    rw [Array.getElem?_toList, Array.getElem?_eq_getElem hi, h']
  have hlt : i < listed.toList.length := by simpa using hi
  rw [List.count_set (h := hlt)]
  have hg : listed.toList[i] = false := by
    have := List.getElem?_eq_getElem hlt
    rw [this] at hl
    exact Option.some.inj hl
  have hpos : 0 < List.count false listed.toList := List.count_pos_iff.2 (hg ▸ List.getElem_mem hlt)
  have hg2 : (listed.toList[i] == false) = true := by rw [hg]; rfl
  rw [hg2]
  simp only [if_true]
  have : (true == false) = false := rfl
  rw [this]
  rw [if_neg (by decide)]
  omega
theorem wpAny_inv {md : Region.Mode} {ops : Array Oper} (I : (Nat → Bool) → Act → World → Prop) (he : ∀ (i : Nat) (o : Oper), ops[i]? = some o → ∀ e ∈ o.after, e.on < i)
    (hs : ∀ (L : Nat → Bool) (a : Act) (w : World) (i : Nat) (o : Oper), I L a w → ops[i]? = some o → L i = false → (∀ e ∈ o.after, Region.binds md e = true → L e.on = true) →
      ∀ K : Act → World → Prop, (∀ a' w', I (updL L i) a' w' → K a' w') → if Region.wanted o (yielded ops a.tmps) = true then Oper.wp P o a w K Q else K (a.put o.dst undef) w)
    (hQ : ∀ L a w, I L a w → (∀ i, i < ops.size → L i = true) → Q .normal a w) :
    ∀ (fuel : Nat) (listed : Array Bool) (a : Act) (w : World), listed.size = ops.size → unlisted listed ≤ fuel → I (fun i => listed.getD i true) a w → wpAny P md ops Q fuel listed a w := by
  intro fuel
  induction fuel with
  | zero =>
    intro listed a w hsz hun hI
    have hall : ∀ i, i < ops.size → listed.getD i true = true := by
      intro i hi
      cases h : listed.getD i true with
      | true => rfl
      | false => have := unlisted_set (by omega) h; omega
    refine ⟨?_, hQ _ _ _ hI hall⟩
    unfold Region.ready
    rw [List.filter_eq_nil_iff]
    intro i hi
    rw [hall i (by simpa using hi)]
    simp
  | succ fuel ih =>
    intro listed a w hsz hun hI
    refine ⟨fun hr => hQ _ _ _ hI (ready_nil hsz he hr), fun i hi => ?_⟩
    unfold Region.ready at hi
    obtain ⟨hi1, hi2⟩ := List.mem_filter.1 hi
    have hlt : i < ops.size := by simpa using hi1
    have ho : ops[i]? = some ops[i] := Array.getElem?_eq_getElem hlt
    rw [ho] at hi2
    simp only [Option.map_some, Option.getD_some, Bool.and_eq_true, Bool.not_eq_true', Array.all_eq_true] at hi2
    obtain ⟨hl, hdep⟩ := hi2
    refine wpOp_step ho fun K hK => ?_
    refine hs _ a w i _ hI ho hl (fun e hem hb => ?_) K (fun a' w' hI' => hK a' w' ?_)
    · obtain ⟨j, hj, rfl⟩ := Array.mem_iff_getElem.1 hem
      have := hdep j hj
      rw [hb] at this
      simp only [Bool.not_true, Bool.false_or] at this
      have hlt2 : (ops[i].after[j]).on < listed.size := by
        have := he i _ ho _ (Array.getElem_mem hj); omega
      show listed.getD (ops[i].after[j]).on true = true
      rw [Array.getD_eq_getD_getElem?, Array.getElem?_eq_getElem hlt2] at this ⊢
      exact this
    · refine ih _ a' w' (by simp [hsz]) (by have := unlisted_set (by omega) hl; omega) ?_
      have : (fun j => (listed.setIfInBounds i true).getD j true) = updL (fun j => listed.getD j true) i := by
        funext j
        unfold updL
        by_cases e : j = i
        · subst e
          rw [if_pos rfl, Array.getD_eq_getD_getElem?, Array.getElem?_setIfInBounds_self]
          split <;> rfl
        · rw [if_neg e, Array.getD_eq_getD_getElem?, Array.getElem?_setIfInBounds_ne (Ne.symm e), ← Array.getD_eq_getD_getElem?]
      rw [this]
      exact hI'
/-- Whether an operation comes behind another one in every order. -/
def behind (ol : List Oper) (i : Nat) : Nat → Nat → Bool
  | 0, j => j == i
  | n + 1, j => j == i || (((ol[j]?).map fun o => o.after.any fun e => Region.binds .any e && behind ol i n e.on).getD false)
/-- What is listed is closed. -/
def Closed (ol : List Oper) (L : Nat → Bool) : Prop := ∀ (j : Nat) (o : Oper), ol[j]? = some o → L j = true → ∀ e ∈ o.after, Region.binds .any e = true → L e.on = true
theorem Closed.behind {ol : List Oper} {L : Nat → Bool} (h : Closed ol L) (i : Nat) : ∀ (n j : Nat), behind ol i n j = true → L j = true → L i = true
  | 0, j, hb, hl => by
    have : j = i := by simpa [Go.Proofs.YtffabnmgcicpiaaGreat.behind] using hb
    exact this ▸ hl
  | n + 1, j, hb, hl => by
    simp only [Go.Proofs.YtffabnmgcicpiaaGreat.behind, Bool.or_eq_true] at hb
    rcases hb with hb | hb
    · have : j = i := by simpa using hb
      exact this ▸ hl
    · cases ho : ol[j]? with
      | none => rw [ho] at hb; simp at hb
      | some o =>
        rw [ho] at hb
        simp only [Option.map_some, Option.getD_some, Array.any_eq_true, Bool.and_eq_true] at hb
        obtain ⟨k, hk, h1, h2⟩ := hb
        exact h.behind i n _ h2 (h j o ho hl _ (Array.getElem_mem hk) h1)
theorem Closed.next {ol : List Oper} {L : Nat → Bool} (h : Closed ol L) (i : Nat) (o : Oper) (ho : ol[i]? = some o) (hd : ∀ e ∈ o.after, Region.binds .any e = true → L e.on = true) : Closed ol (updL L i) := by
  intro j o' ho' hl e he hb
  unfold updL at hl ⊢
  by_cases ej : e.on = i
  · rw [if_pos ej]
  · rw [if_neg ej]
    by_cases hj : j = i
    · subst hj
      rw [ho] at ho'
      cases ho'
      exact hd e he hb
    · rw [if_neg hj] at hl
      exact h j o' ho' hl e he hb
/-- What is known of each slot that was written, by its operation. -/
def Cl (C : Nat → Value → World → Prop) (t : Nat → Nat) (L : Nat → Bool) (us : Nat → Value) (w : World) : Prop := ∀ j, L j = true → C j (us (t j)) w
theorem Cl.put {C : Nat → Value → World → Prop} {t : Nat → Nat} {L : Nat → Bool} {us : Nat → Value} {w w' : World} {i : Nat} {v : Value} (h : Cl C t L us w) (hC : ∀ j v, C j v w → C j v w') (hi : C i v w') (ht : ∀ j, j ≠ i → t j ≠ t i) : Cl C t (updL L i) (updU us (t i) v) w' := by
  intro j hj
  by_cases e : j = i
  · subst e; rw [updU_same]; exact hi
  · rw [updU_other _ _ _ _ (ht j e)]
    rw [updL_other _ _ _ e] at hj
    exact hC j _ (h j hj)
/-- A region that draws: an invariant of what is listed, of the slots that it writes, and of the world. -/
theorem wp_region_inv {id : Nat} {ol : List Oper} {l : List Value} {d : List Deferred} {w : World} (hm : P.follows .mixedOrders = true) (ds : Nat → Bool) (R : (Nat → Bool) → (Nat → Value) → World → Prop) (hear : earlier 0 ol = true)
    (h0 : R (fun i => decide (ol.length ≤ i)) (fun t => l.getD t undef) w.drew)
    (hs : OpsAll (fun i o => ∀ (L : Nat → Bool) (us : Nat → Value) (w : World), R L us w → L i = false → (∀ e ∈ o.after, Region.binds .any e = true → L e.on = true) → (∀ j, behind ol i ol.length j = true → L j = false) → (∀ j, j ≠ i → behind ol j ol.length i = true → L j = true) →
      ∀ K : Act → World → Prop, (∀ a' w', (∃ us', a' = ⟨(frmFrom us' ds 0 l).toArray, d⟩ ∧ R (updL L i) us' w') → K a' w') →
        if Region.wanted o (yielded ol.toArray (frmFrom us ds 0 l).toArray) = true then Oper.wp P o ⟨(frmFrom us ds 0 l).toArray, d⟩ w K Q else K ((Act.mk (frmFrom us ds 0 l).toArray d).put o.dst undef) w) 0 ol)
    (hQ : ∀ (L : Nat → Bool) (us : Nat → Value) (w : World), R L us w → (∀ i, i < ol.length → L i = true) → Q .normal ⟨(frmFrom us ds 0 l).toArray, d⟩ w) :
    (Code.region id ol.toArray true).wp P Q ⟨l.toArray, d⟩ w := by
  refine wp_region_any hm ?_
  refine wpAny_inv (fun L a w => Closed ol L ∧ ∃ us, a = ⟨(frmFrom us ds 0 l).toArray, d⟩ ∧ R L us w) (fun i o ho e he => ?_) ?_ ?_ _ _ _ _ (by simp) ?_ ?_
  · have := earlier_at hear i o (by simpa using ho) e he
    omega
  · rintro L a w i o ⟨hc, us, rfl, hR⟩ ho hl hdep K hK
    have ho' : ol[i]? = some o := by simpa using ho
    have := hs.at i o ho'
    rw [Nat.zero_add] at this
    refine this L us w hR hl hdep (fun j hj => ?_) (fun j hji hj => ?_) K (fun a' w' h => hK a' w' ⟨hc.next i o ho' hdep, h⟩)
    · cases hlj : L j with
      | false => rfl
      | true => rw [hc.behind i _ j hj hlj] at hl; cases hl
    · obtain ⟨n, hn⟩ : ∃ n, ol.length = n + 1 := ⟨ol.length - 1, by have := (List.getElem?_eq_some_iff.1 ho').1; omega⟩
      rw [hn] at hj
      simp only [Go.Proofs.YtffabnmgcicpiaaGreat.behind, Bool.or_eq_true] at hj
      rcases hj with hj | hj
      · have : i = j := by simpa using hj
        exact absurd this.symm hji
      · rw [ho'] at hj
        simp only [Option.map_some, Option.getD_some, Array.any_eq_true, Bool.and_eq_true] at hj
        obtain ⟨k, hk, h1, h2⟩ := hj
        exact hc.behind j n _ h2 (hdep _ (Array.getElem_mem hk) h1)
  · rintro L a w ⟨_, us, rfl, hR⟩ hall
    exact hQ L us w hR (fun i hi => hall i (by simpa using hi))
  · unfold unlisted
    simp
  · have : (fun i => (Array.replicate ol.toArray.size false).getD i true) = fun i => decide (ol.length ≤ i) := by
      funext i
      rw [Array.getD_eq_getD_getElem?, Array.getElem?_replicate]
      by_cases h : i < ol.length
      · rw [if_pos (by simpa using h)]; simp; omega
      · rw [if_neg (by simpa using h)]; simp; omega
    rw [this]
    refine ⟨fun j o ho hl => ?_, _, by rw [frm_self], h0⟩
    have h1 := (List.getElem?_eq_some_iff.1 ho).1
    have h2 := of_decide_eq_true hl
    omega
end
end Go.Proofs.YtffabnmgcicpiaaGreat
