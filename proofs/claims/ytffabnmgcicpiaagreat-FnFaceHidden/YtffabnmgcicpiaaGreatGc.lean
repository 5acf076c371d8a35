/- Plain: the functions of a right module; lines that are put where they belong ascend. No conditions. -/
import Derived.Test.YtffabnmgcicpiaaGreatGa
import Derived.Test.YtffabnmgcicpiaaGreatG10
namespace Go.Proofs.YtffabnmgcicpiaaGreat
open Go.RowKit Go.PlainAid

theorem less_eqG : ∀ (x y : List UInt8), Op.bytesLess x y = decide (x < y)
  | [], [] => by simp [Op.bytesLess]
  | _ :: _, [] => by simp [Op.bytesLess]
  | [], _ :: _ => by simp [Op.bytesLess]
  | a :: x, b :: y => by
    rw [Op.bytesLess, less_eqG x y]
    simp only [List.cons_lt_cons_iff]
    by_cases h1 : a < b <;> by_cases h2 : a = b <;> by_cases h3 : x < y <;> simp [h1, h2, h3]
theorem told_eqG {l ts : List TS} (h : Told l ts) (hl : Asc l) : l = ts := by
  obtain ⟨ha, h1, h2⟩ := h
  have inj : ∀ {m : List TS}, Asc m → ∀ s ∈ m, ∀ t ∈ m, key s = key t → s = t := by
    intro m hm s hs t ht e
    obtain ⟨i, hi, rfl⟩ := List.getElem_of_mem hs
    obtain ⟨j, hj, rfl⟩ := List.getElem_of_mem ht
    by_cases hij : i = j
    · subst hij; rfl
    · exfalso
      have hp := List.pairwise_iff_getElem.1 hm
      rcases Nat.lt_or_gt_of_ne hij with hlt | hlt
      · have := hp i j (by simpa using hi) (by simpa using hj) hlt
        simp only [List.getElem_map] at this
        rw [e] at this; exact List.lt_irrefl _ this
      · have := hp j i (by simpa using hj) (by simpa using hi) hlt
        simp only [List.getElem_map] at this
        rw [e] at this; exact List.lt_irrefl _ this
  have nd : ∀ {m : List TS}, Asc m → m.Nodup := by
    intro m hm
    refine (List.pairwise_map.1 hm).imp ?_
    intro a b hab e
    rw [e] at hab
    exact List.lt_irrefl _ hab
  have hmem : ∀ s, s ∈ l ↔ s ∈ ts := fun s => ⟨fun hs => by
    obtain ⟨t, ht, e⟩ := h2 s hs
    rw [← inj hl t (h1 t ht) s hs e]
    exact ht, fun hs => h1 s hs⟩
  have hp : l.Perm ts := (List.perm_ext_iff_of_nodup (nd hl) (nd ha)).2 hmem
  refine List.Perm.eq_of_pairwise (le := fun a b => key a < key b) (fun a b _ _ h3 h4 => ?_) (List.pairwise_map.1 hl) (List.pairwise_map.1 ha) hp
  exact absurd (List.lt_trans h3 h4) (List.lt_irrefl _)
theorem typeB_ne {t : Int} (h : typeB t = true) : t ≠ 0 := fun e => by
  subst e
  unfold typeB typeW at h
  rw [if_neg (by omega), if_neg (by omega), if_neg (by omega), ByteArray.toList_eq] at h
  simp at h
theorem names_parts : ∀ (l pre : List ByteArray), namesFrom pre l = true → (∀ x ∈ l, nameB x.data.toList = true ∧ hasB pre x = false) ∧ l.Pairwise (fun a b => a.data.toList ≠ b.data.toList)
  | [], _, _ => ⟨fun _ hx => (by cases hx), List.Pairwise.nil⟩
  | y :: t, pre, h => by
    rw [namesFrom] at h
    simp only [Bool.and_eq_true, Bool.not_eq_true'] at h
    obtain ⟨h1, h2, h3⟩ := h
    obtain ⟨g1, g2⟩ := names_parts t (pre ++ [y]) h3
    have g3 : ∀ x ∈ t, hasB pre x = false ∧ y.data.toList ≠ x.data.toList := fun x hx => by
      have := (g1 x hx).2
      rw [hasB_snoc, Bool.or_eq_false_iff] at this
      refine ⟨this.1, fun e => ?_⟩
      have h5 := this.2
      rw [ByteArray.toList_eq, ByteArray.toList_eq, e] at h5
      simp at h5
    refine ⟨fun x hx => ?_, List.pairwise_cons.2 ⟨fun x hx => (g3 x hx).2, g2⟩⟩
    rcases List.mem_cons.1 hx with rfl | hx
    · exact ⟨h1, h2⟩
    · exact ⟨(g1 x hx).1, (g3 x hx).1⟩
theorem name_small {x : ByteArray} (h : nameB x.data.toList = true) : x.size ≤ 8 := by
  unfold nameB at h
  simp only [Bool.and_eq_true, decide_eq_true_eq] at h
  simpa using h.1.1.2
/-- What is known of the functions of a right module. -/
theorem ok_funs {m : TM} (h : m.okB = true) : m.funs.length ≤ 8 ∧ (∀ f ∈ m.funs, f.args.length ≤ 4 ∧ (∀ x ∈ f.args.map TA.type, x ≠ 0) ∧ f.name.size ≤ 8) ∧ m.funs.Pairwise (fun a b => a.name.data.toList ≠ b.name.data.toList) := by
  unfold TM.okB at h
  simp only [Bool.and_eq_true, decide_eq_true_eq, List.all_eq_true] at h
  obtain ⟨_, h2, _, _, _, h6, h7, _⟩ := h
  obtain ⟨g1, g2⟩ := names_parts _ _ h7
  refine ⟨h2, fun f hf => ?_, (List.pairwise_map (f := TF.name) (R := fun a b => a.data.toList ≠ b.data.toList)).1 g2⟩
  have hh := (h6 f hf).1
  unfold TF.headB at hh
  simp only [Bool.and_eq_true, decide_eq_true_eq, List.all_eq_true] at hh
  refine ⟨hh.1, fun x hx => ?_, name_small (g1 f.name (List.mem_map_of_mem hf)).1⟩
  obtain ⟨a, ha, rfl⟩ := List.mem_map.1 hx
  exact typeB_ne (hh.2.2.1 a ha)
/-- The signatures of the functions that are Pub. -/
def pubs (l : List TF) : List TS := (l.filter TF.pub).map sigOf
theorem pubs_snoc (l : List TF) (f : TF) : pubs (l ++ [f]) = pubs l ++ (if f.pub then [sigOf f] else []) := by
  unfold pubs
  rw [List.filter_append, List.map_append]
  cases h : f.pub <;> simp [h]
theorem pubs_keys {l : List TF} (h : l.Pairwise (fun a b => a.name.data.toList ≠ b.name.data.toList)) : (pubs l).Pairwise (fun a b => key a ≠ key b) := by
  unfold pubs
  exact List.pairwise_map.2 (h.sublist List.filter_sublist)
theorem pubs_mem {l : List TF} {s : TS} (h : s ∈ pubs l) : ∃ f ∈ l, s = sigOf f := by
  unfold pubs at h
  obtain ⟨f, hf, rfl⟩ := List.mem_map.1 h
  exact ⟨f, (List.mem_filter.1 hf).1, rfl⟩
theorem pubs_len (l : List TF) : (pubs l).length ≤ l.length := by
  unfold pubs
  rw [List.length_map]
  exact List.length_filter_le _ _
/-- A line is put where it belongs. -/
def putR (s : TS) : List TS → List TS
  | [] => [s]
  | t :: r => if key t < key s then t :: putR s r else s :: t :: r
theorem putR_mem (s x : TS) : ∀ l : List TS, x ∈ putR s l ↔ x = s ∨ x ∈ l
  | [] => by simp [putR]
  | t :: r => by
    rw [putR]
    split
    · rw [List.mem_cons, putR_mem s x r, List.mem_cons]
      constructor
      · rintro (h | h | h)
        · exact .inr (.inl h)
        · exact .inl h
        · exact .inr (.inr h)
      · rintro (h | h | h)
        · exact .inr (.inl h)
        · exact .inl h
        · exact .inr (.inr h)
    · rw [List.mem_cons]
theorem putR_asc {s : TS} : ∀ {l : List TS}, Asc l → (∀ t ∈ l, key t ≠ key s) → Asc (putR s l)
  | [], _, _ => by simp [putR, Asc]
  | t :: r, h, hne => by
    have hp : Asc r ∧ ∀ k ∈ r.map key, key t < k := by
      have := List.pairwise_cons.1 (show (key t :: r.map key).Pairwise (fun a b => a < b) from h)
      exact ⟨this.2, this.1⟩
    rw [putR]
    split
    · next hlt =>
      refine List.pairwise_cons.2 ⟨fun k hk => ?_, putR_asc hp.1 (fun x hx => hne x (List.mem_cons_of_mem _ hx))⟩
      obtain ⟨x, hx, rfl⟩ := List.mem_map.1 hk
      rcases (putR_mem s x r).1 hx with rfl | hx
      · exact hlt
      · exact hp.2 _ (List.mem_map_of_mem hx)
    · next hlt =>
      have hst : key s < key t := by
        by_cases h5 : key s < key t
        · exact h5
        · exact absurd (List.le_antisymm (List.not_lt.1 h5) (List.not_lt.1 hlt)) (hne t (by simp))
      refine List.pairwise_cons.2 ⟨fun k hk => ?_, h⟩
      rcases List.mem_cons.1 hk with rfl | hk
      · exact hst
      · exact List.lt_trans hst (hp.2 k hk)
theorem putR_at {s : TS} : ∀ {l : List TS} {k : Nat}, k ≤ l.length → (∀ j (hj : j < l.length), j < k → key l[j] < key s) → (∀ hk : k < l.length, ¬ key l[k] < key s) → putR s l = l.take k ++ s :: l.drop k
  | [], k, hk, _, _ => by
    have : k = 0 := by simpa using hk
    subst this
    simp [putR]
  | t :: r, 0, _, _, h2 => by
    have h3 : ¬ key t < key s := h2 (by simp)
    rw [putR, if_neg h3]
    simp
  | t :: r, k + 1, hk, h1, h2 => by
    have ht : key t < key s := h1 0 (by simp) (by omega)
    rw [putR, if_pos ht, putR_at (l := r) (k := k) (by simpa using hk) (fun j hj hjk => h1 (j + 1) (by simp; omega) (by omega)) (fun hk2 => h2 (by simp; omega))]
    simp
/-- All lines, put where they belong. -/
def putAll (l : List TS) : List TS := l.foldl (fun acc s => putR s acc) []
theorem putAll_snoc (l : List TS) (s : TS) : putAll (l ++ [s]) = putR s (putAll l) := by unfold putAll; rw [List.foldl_append]; rfl
theorem putAll_parts : ∀ (l acc : List TS), Asc acc → (∀ s ∈ l, ∀ t ∈ acc, key t ≠ key s) → l.Pairwise (fun a b => key a ≠ key b) → Asc (l.foldl (fun acc s => putR s acc) acc) ∧ ∀ x, x ∈ l.foldl (fun acc s => putR s acc) acc ↔ x ∈ l ∨ x ∈ acc
  | [], acc, h, _, _ => ⟨h, fun x => by simp⟩
  | s :: r, acc, h, hne, hp => by
    have hp' := List.pairwise_cons.1 hp
    obtain ⟨g1, g2⟩ := putAll_parts r (putR s acc) (putR_asc h (fun t ht => hne s (by simp) t ht)) (fun x hx t ht => by
      rcases (putR_mem s t acc).1 ht with rfl | ht
      · exact hp'.1 x hx
      · exact hne x (List.mem_cons_of_mem _ hx) t ht) hp'.2
    refine ⟨g1, fun x => ?_⟩
    rw [List.foldl_cons, g2 x, putR_mem, List.mem_cons]
    constructor
    · rintro (h | h | h)
      · exact .inl (.inr h)
      · exact .inl (.inl h)
      · exact .inr h
    · rintro ((h | h) | h)
      · exact .inr (.inl h)
      · exact .inl h
      · exact .inr (.inr h)
/-- What the table tells is what is put where it belongs. -/
theorem told_putAll {l ts : List TS} (h : Told l ts) (hp : l.Pairwise (fun a b => key a ≠ key b)) : putAll l = ts := by
  obtain ⟨g1, g2⟩ := putAll_parts l [] List.Pairwise.nil (fun _ _ t ht => by cases ht) hp
  have hm : ∀ x, x ∈ putAll l ↔ x ∈ l := fun x => by rw [show putAll l = l.foldl (fun acc s => putR s acc) [] from rfl, g2 x]; simp
  exact told_eqG ⟨h.1, fun s hs => (hm s).2 (h.2.1 s hs), fun s hs => h.2.2 s ((hm s).1 hs)⟩ g1
end Go.Proofs.YtffabnmgcicpiaaGreat
