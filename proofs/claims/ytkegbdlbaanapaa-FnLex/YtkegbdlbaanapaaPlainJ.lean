/- Plain: words that are whole are cut again from what joins them; the words of a clean text are whole. No conditions. -/
import Derived.Test.YtkegbdlbaanapaaXe
namespace Go.Proofs.Ytkegbdlbaanapaa
open Go.RowKit Go.PlainAid

/-- A byte that may stand in a word of several bytes. -/
def plain (c : UInt8) : Bool := (decide (33 ≤ c.toNat) && decide (c.toNat ≤ 126)) && !bracket c
def okByte (n : Nat) (c : UInt8) : Bool := (decide (33 ≤ c.toNat) && decide (c.toNat ≤ 126)) && !(decide (1 < n) && bracket c)
/-- A word that is whole. -/
def whole (l : List UInt8) : Bool := !l.isEmpty && l.all (okByte l.length)
def joinC (p : Option (List UInt8)) : List (List UInt8) → List UInt8
  | [] => []
  | x :: t => (match p with | none => [] | some q => if (!(q == [40]) && !(x == [41])) = true then [32] else []) ++ (x ++ joinC (some x) t)
def cur (p : Option (List UInt8)) : List UInt8 := match p with | none => [] | some [c] => if bracket c = true then [] else [c] | some x => x

theorem bracket_cases {c : UInt8} (h : bracket c = true) : c = 40 ∨ c = 41 := by
  unfold bracket at h; simpa using h
theorem bracket_not_blank {c : UInt8} (h : bracket c = true) : blank c = false := by
  rcases bracket_cases h with rfl | rfl <;> rfl
theorem whole_cases {x : List UInt8} (h : whole x = true) : (∃ c, x = [c] ∧ bracket c = true) ∨ (x ≠ [] ∧ (∀ c ∈ x, plain c = true) ∧ cur (some x) = x ∧ (x == [41]) = false ∧ (x == [40]) = false) := by
  unfold whole at h
  rw [Bool.and_eq_true, List.all_eq_true] at h
  obtain ⟨h1, h2⟩ := h
  match x, h1, h2 with
  | [c], _, h2 =>
    cases hb : bracket c with
    | true => exact .inl ⟨c, rfl, hb⟩
    | false =>
      refine .inr ⟨by simp, fun d hd => ?_, by simp [cur, hb], ?_, ?_⟩
      · simp at hd
        subst hd
        have := h2 d (by simp)
        unfold okByte at this
        rw [Bool.and_eq_true] at this
        unfold plain
        rw [this.1, hb]; rfl
      · rw [beq_eq_false_iff_ne]; rintro e; simp at e; subst e; cases hb
      · rw [beq_eq_false_iff_ne]; rintro e; simp at e; subst e; cases hb
  | a :: b :: t, _, h2 =>
    refine .inr ⟨by simp, fun d hd => ?_, rfl, by rw [beq_eq_false_iff_ne]; simp, by rw [beq_eq_false_iff_ne]; simp⟩
    have := h2 d hd
    unfold okByte at this
    rw [Bool.and_eq_true] at this
    unfold plain
    rw [this.1]
    simpa using this.2
theorem plain_not {c : UInt8} (h : plain c = true) : blank c = false ∧ bracket c = false ∧ fine c = true := by
  unfold plain at h
  rw [Bool.and_eq_true, Bool.and_eq_true, decide_eq_true_eq, decide_eq_true_eq] at h
  refine ⟨?_, by simpa using h.2, ?_⟩
  · rw [blank_iff, Bool.or_eq_false_iff, beq_eq_false_iff_ne, beq_eq_false_iff_ne]; omega
  · unfold fine; rw [decide_eq_true h.1.1, decide_eq_true h.1.2]; simp
theorem go_run : ∀ (x r k : List UInt8), (∀ c ∈ x, plain c = true) → wordsGo (x ++ r) k = wordsGo r (k ++ x)
  | [], r, k, _ => by simp
  | c :: x, r, k, h => by
    obtain ⟨h1, h2, _⟩ := plain_not (h c (List.mem_cons_self ..))
    rw [List.cons_append, wordsGo, h1, h2]
    simp only [Bool.false_eq_true, if_false]
    rw [go_run x r (k ++ [c]) (fun d hd => h d (List.mem_cons_of_mem _ hd))]
    simp
theorem go_bracket (c : UInt8) (r k : List UInt8) (h : bracket c = true) : wordsGo (c :: r) k = flush k ++ ([c] :: wordsGo r []) := by
  rw [wordsGo, bracket_not_blank h, h]; rfl
theorem go_blank (r k : List UInt8) : wordsGo (32 :: r) k = flush k ++ wordsGo r [] := by rw [wordsGo]; rfl

theorem cut_join : ∀ (ws : List (List UInt8)) (p : Option (List UInt8)), (∀ x ∈ ws, whole x = true) → (∀ q, p = some q → whole q = true) → wordsGo (joinC p ws) (cur p) = flush (cur p) ++ ws
  | [], p, _, _ => by simp [joinC, wordsGo]
  | y :: t, p, hw, hp => by
    have hy := hw y (List.mem_cons_self ..)
    have ih := cut_join t (some y) (fun x hx => hw x (List.mem_cons_of_mem _ hx)) (fun q e => by cases e; exact hy)
    have hB : wordsGo (y ++ joinC (some y) t) [] = y :: t := by
      rcases whole_cases hy with ⟨c, rfl, hc⟩ | ⟨h1, h2, h3, _⟩
      · have e : cur (some [c]) = [] := by simp [cur, hc]
        rw [e] at ih
        rw [List.singleton_append, go_bracket c _ _ hc, ih]
        rfl
      · rw [go_run y _ [] h2, List.nil_append]
        rw [h3] at ih
        rw [ih, flush_ne h1]
        rfl
    unfold joinC
    cases p with
    | none =>
      show wordsGo ([] ++ (y ++ joinC (some y) t)) [] = [] ++ (y :: t)
      rw [List.nil_append, List.nil_append]
      exact hB
    | some q =>
      dsimp only
      by_cases hs : (!(q == [40]) && !(y == [41])) = true
      · rw [if_pos hs, List.singleton_append, go_blank, hB]
      · rw [if_neg hs, List.nil_append]
        rcases whole_cases (hp q rfl) with ⟨c, rfl, hc⟩ | ⟨h1, h2, h3, h4, h5⟩
        · have e : cur (some [c]) = [] := by simp [cur, hc]
          rw [e, hB]; rfl
        · have hy41 : y = [41] := by
            rw [h5] at hs
            simpa using hs
          subst hy41
          have hb : bracket 41 = true := rfl
          rw [List.singleton_append, go_bracket 41 _ _ hb]
          rw [List.singleton_append, go_bracket 41 _ _ hb] at hB
          rw [flush_nil, List.nil_append] at hB
          rw [hB]

theorem foldl_join (ws : List ByteArray) : ∀ (acc : List UInt8) (p : Option ByteArray), (ws.foldl joinF (acc, p)).1 = acc ++ joinC (p.map fun b => b.data.toList) (ws.map fun b => b.data.toList) := by
  induction ws with
  | nil => intro acc p; simp [joinC]
  | cons x t ih =>
    intro acc p
    rw [List.foldl_cons]
    show (t.foldl joinF (acc ++ sep p x ++ x.data.toList, some x)).1 = _
    rw [ih]
    cases p with
    | none => simp [joinC, sep]
    | some q =>
      have e : sep (some q) x = (if (!(q.data.toList == [40]) && !(x.data.toList == [41])) = true then [32] else []) := by
        unfold sep open_ shut_
        simp only [ByteArray.toList_eq]
      rw [e]
      simp only [joinC, Option.map_some, List.map_cons]
      simp [List.append_assoc]
def wholes (ws : List ByteArray) : Bool := ws.all fun b => whole b.data.toList
theorem mk_data (b : ByteArray) : mkB b.data.toList = b := rfl
/-- Words that are whole are cut again from what joins them. -/
theorem words_back (ws : List ByteArray) (h : wholes ws = true) : wordsOf ⟨(joinW ws).toArray⟩ = ws := by
  unfold wordsOf
  show ((wordsGo (joinW ws) []).map mkB) = ws
  have hj : joinW ws = joinC none (ws.map fun b => b.data.toList) := by
    unfold joinW; rw [foldl_join]; rfl
  have := cut_join (ws.map fun b => b.data.toList) none (fun x hx => by
    obtain ⟨b, hb, rfl⟩ := List.mem_map.1 hx
    exact List.all_eq_true.1 h b hb) (fun q e => by cases e)
  rw [hj]
  show ((wordsGo (joinC none (ws.map fun b => b.data.toList)) (cur none)).map mkB) = ws
  rw [this]
  show ((([] : List (List UInt8)) ++ ws.map fun b => b.data.toList).map mkB) = ws
  rw [List.nil_append, List.map_map]
  have e : mkB ∘ (fun b : ByteArray => b.data.toList) = id := by funext b; exact mk_data b
  rw [e, List.map_id]
theorem whole_fine {x : List UInt8} (h : whole x = true) : ∀ c ∈ x, fine c = true := by
  intro c hc
  rcases whole_cases h with ⟨d, rfl, hd⟩ | ⟨_, h2, _⟩
  · simp at hc
    subst hc
    rcases bracket_cases hd with rfl | rfl <;> rfl
  · exact (plain_not (h2 c hc)).2.2
theorem join_clean : ∀ (ws : List (List UInt8)) (p : Option (List UInt8)), (∀ x ∈ ws, whole x = true) → (joinC p ws).all fine = true
  | [], p, _ => by simp [joinC]
  | y :: t, p, h => by
    unfold joinC
    rw [List.all_append, List.all_append, join_clean t (some y) (fun x hx => h x (List.mem_cons_of_mem _ hx)), List.all_eq_true.2 (whole_fine (h y (List.mem_cons_self ..)))]
    cases p with
    | none => rfl
    | some q => dsimp only; split <;> rfl
theorem clean_join (ws : List ByteArray) (h : wholes ws = true) : cleanB ⟨(joinW ws).toArray⟩ = true := by
  unfold cleanB
  show (joinW ws).all fine = true
  unfold joinW
  rw [foldl_join, List.nil_append]
  exact join_clean _ _ (fun x hx => by
    obtain ⟨b, hb, rfl⟩ := List.mem_map.1 hx
    exact List.all_eq_true.1 h b hb)

/-! The words of a clean text are whole. -/
theorem whole_run {x : List UInt8} (h1 : x ≠ []) (h : ∀ c ∈ x, plain c = true) : whole x = true := by
  unfold whole
  rw [Bool.and_eq_true, List.all_eq_true]
  refine ⟨by cases x <;> simp at h1 ⊢, fun c hc => ?_⟩
  have := h c hc
  unfold plain at this
  rw [Bool.and_eq_true] at this
  unfold okByte
  rw [this.1]
  have : bracket c = false := by simpa using this.2
  rw [this]; simp
theorem whole_bracket {c : UInt8} (h : bracket c = true) : whole [c] = true := by
  rcases bracket_cases h with rfl | rfl <;> rfl
theorem flush_whole {k : List UInt8} (h : ∀ c ∈ k, plain c = true) : ∀ x ∈ flush k, whole x = true := by
  cases k with
  | nil => intro x hx; simp [flush] at hx
  | cons a t => intro x hx; simp [flush] at hx; subst hx; exact whole_run (by simp) h
theorem fine_plain {c : UInt8} (h : fine c = true) (h1 : blank c = false) (h2 : bracket c = false) : plain c = true := by
  unfold fine at h
  rw [h1, Bool.false_or] at h
  unfold plain
  rw [h, h2]; rfl
theorem go_whole : ∀ (l k : List UInt8), l.all fine = true → (∀ c ∈ k, plain c = true) → ∀ x ∈ wordsGo l k, whole x = true
  | [], k, _, hk => by simpa [wordsGo] using flush_whole hk
  | c :: t, k, hl, hk => by
    rw [List.all_cons, Bool.and_eq_true] at hl
    have ih0 := go_whole t [] hl.2 (fun c hc => absurd hc List.not_mem_nil)
    intro x hx
    unfold wordsGo at hx
    by_cases h1 : blank c = true
    · rw [if_pos h1] at hx
      rcases List.mem_append.1 hx with h | h
      · exact flush_whole hk x h
      · exact ih0 x h
    · rw [if_neg h1] at hx
      by_cases h2 : bracket c = true
      · rw [if_pos h2] at hx
        rcases List.mem_append.1 hx with h | h
        · exact flush_whole hk x h
        · rcases List.mem_cons.1 h with rfl | h
          · exact whole_bracket h2
          · exact ih0 x h
      · rw [if_neg h2] at hx
        refine go_whole t (k ++ [c]) hl.2 (fun d hd => ?_) x hx
        rcases List.mem_append.1 hd with h | h
        · exact hk d h
        · simp at h
          subst h
          exact fine_plain hl.1 (by simpa using h1) (by simpa using h2)
theorem words_whole (s : ByteArray) (h : cleanB s = true) : wholes (wordsOf s) = true := by
  unfold wholes wordsOf
  rw [List.all_eq_true]
  intro b hb
  obtain ⟨x, hx, rfl⟩ := List.mem_map.1 hb
  exact go_whole s.data.toList [] h (fun c hc => absurd hc List.not_mem_nil) x hx
theorem go_total : ∀ (l k : List UInt8), (((wordsGo l k).map List.length).sum) ≤ l.length + k.length
  | [], k => by cases k <;> simp [wordsGo, flush]
  | c :: t, k => by
    have h1 := go_total t []
    have h2 := go_total t (k ++ [c])
    have hf : ((flush k).map List.length).sum ≤ k.length := by cases k <;> simp [flush]
    rw [List.length_append, List.length_singleton] at h2
    rw [List.length_nil] at h1
    unfold wordsGo
    split
    · rw [List.map_append, List.sum_append, List.length_cons]; omega
    · split
      · rw [List.map_append, List.sum_append, List.map_cons, List.sum_cons, List.length_singleton, List.length_cons]; omega
      · rw [List.length_cons]; omega
theorem total_words (s : ByteArray) : total (wordsOf s) ≤ s.size + (wordsOf s).length := by
  have h := go_total s.data.toList []
  rw [← size_len, List.length_nil] at h
  have e : total (wordsOf s) = ((wordsGo s.data.toList []).map List.length).sum + (wordsOf s).length := by
    unfold wordsOf total
    generalize wordsGo s.data.toList [] = L
    induction L with
    | nil => rfl
    | cons a t ih =>
      simp only [List.map_cons, List.sum_cons, List.length_cons] at ih ⊢
      have : (mkB a).size = a.length := rfl
      omega
  omega
end Go.Proofs.Ytkegbdlbaanapaa
