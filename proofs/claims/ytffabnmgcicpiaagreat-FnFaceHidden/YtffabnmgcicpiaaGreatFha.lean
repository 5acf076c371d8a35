/- What is hidden of a module does not show in its face, plain. No conditions. -/
import Derived.Test.YtffabnmgcicpiaaGreatGd
namespace Go.Proofs.YtffabnmgcicpiaaGreat
open Go.RowKit Go.PlainAid

/-- A function with another body. -/
def hidF (f : TF) : TF := ⟨f.name, f.pub, f.args, f.type, .node 1 7 ⟨#[]⟩ ⟨#[]⟩ []⟩
/-- A module with other bodies, the other way round, without Main. -/
def hidM (m : TM) : TM := ⟨m.uses, (m.funs.map hidF).reverse, []⟩
theorem hasB_no {pre : List ByteArray} {x : ByteArray} : hasB pre x = false ↔ ∀ y ∈ pre, y.toList ≠ x.toList := by
  unfold hasB
  rw [Bool.eq_false_iff, Ne, List.any_eq_true]
  simp only [beq_iff_eq, not_exists, not_and]
theorem namesFrom_iff : ∀ (l pre : List ByteArray), namesFrom pre l = true ↔ (∀ x ∈ l, nameB x.data.toList = true) ∧ l.Pairwise (fun a b => a.toList ≠ b.toList) ∧ ∀ x ∈ l, hasB pre x = false
  | [], pre => by simp [namesFrom]
  | x :: t, pre => by
    rw [namesFrom, Bool.and_eq_true, Bool.and_eq_true, namesFrom_iff t (pre ++ [x]), List.pairwise_cons]
    constructor
    · rintro ⟨h1, h2, h3, h4, h5⟩
      refine ⟨fun y hy => ?_, ⟨fun y hy => ?_, h4⟩, fun y hy => ?_⟩
      · rcases List.mem_cons.1 hy with rfl | hy
        · exact h1
        · exact h3 y hy
      · exact hasB_no.1 (h5 y hy) x (by simp)
      · rcases List.mem_cons.1 hy with rfl | hy
        · simpa using h2
        · exact hasB_no.2 (fun z hz => hasB_no.1 (h5 y hy) z (by simp [hz]))
    · rintro ⟨h1, ⟨h2, h3⟩, h4⟩
      refine ⟨h1 x (by simp), by simpa using h4 x (by simp), fun y hy => h1 y (by simp [hy]), h3, fun y hy => hasB_no.2 (fun z hz => ?_)⟩
      rcases List.mem_append.1 hz with hz | hz
      · exact hasB_no.1 (h4 y (by simp [hy])) z hz
      · rw [List.mem_singleton] at hz; subst hz; exact h2 y hy
theorem namesB_iff (l : List ByteArray) : namesB l = true ↔ (∀ x ∈ l, nameB x.data.toList = true) ∧ l.Pairwise (fun a b => a.toList ≠ b.toList) := by
  unfold namesB
  rw [namesFrom_iff]
  constructor
  · rintro ⟨h1, h2, _⟩; exact ⟨h1, h2⟩
  · rintro ⟨h1, h2⟩; exact ⟨h1, h2, fun x _ => rfl⟩
theorem namesB_rev {l : List ByteArray} (h : namesB l = true) : namesB l.reverse = true := by
  rw [namesB_iff] at h ⊢
  exact ⟨fun x hx => h.1 x (List.mem_reverse.1 hx), List.pairwise_reverse.2 (h.2.imp (fun hab => fun e => hab e.symm))⟩
theorem size_ones : ∀ (l : List TF) (n : Nat), n + l.length ≤ 150 → sizeFrom n (l.map (fun f => (hidF f).body)) = true
  | [], _, _ => rfl
  | x :: t, n, h => by
    have h1 : (hidF x).body.nodes = 1 := by simp [hidF, TE.nodes, nodesL]
    have h2 : (hidF x).body.deep ≤ 16 := by simp [hidF, TE.deep, deepL]
    rw [List.length_cons] at h
    rw [List.map_cons, sizeFrom, h1, decide_eq_true (show n + 1 ≤ 150 by omega), decide_eq_true h2, size_ones t (n + 1) (by omega)]
    rfl
theorem body_ok : (TE.node 1 7 ⟨#[]⟩ ⟨#[]⟩ []).ok = true := by
  simp [TE.ok, okL, nodeB, plainB]
theorem hid_ok {m : TM} (h : m.okB = true) : (hidM m).okB = true := by
  unfold TM.okB at h ⊢
  simp only [Bool.and_eq_true, decide_eq_true_eq, List.all_eq_true] at h ⊢
  obtain ⟨h1, h2, h3, h4, h5, h6, h7, h8⟩ := h
  refine ⟨h1, by simpa [hidM] using h2, by simp [hidM], h4, ?_, ?_, ?_, rfl⟩
  · have e : (hidM m).bodies = (m.funs.reverse).map (fun f => (hidF f).body) := by
      simp [TM.bodies, hidM, List.map_reverse]
    rw [e]
    exact size_ones _ 0 (by rw [List.length_reverse]; omega)
  · intro f hf
    unfold hidM at hf
    rw [List.mem_reverse, List.mem_map] at hf
    obtain ⟨g, hg, rfl⟩ := hf
    exact ⟨(h6 g hg).1, body_ok⟩
  · have e : (hidM m).funs.map TF.name = (m.funs.map TF.name).reverse := by
      simp [hidM, List.map_reverse, Function.comp_def, hidF]
    rw [e]
    exact namesB_rev h7
theorem pubs_hid (l : List TF) : pubs ((l.map hidF).reverse) = (pubs l).reverse := by
  unfold pubs
  rw [List.filter_reverse, List.map_reverse]
  congr 1
  induction l with
  | nil => rfl
  | cons x t ih =>
    rw [List.map_cons, List.filter_cons, List.filter_cons]
    have e : (hidF x).pub = x.pub := rfl
    rw [e]
    cases x.pub with
    | true => simp only [if_true, List.map_cons, ih]; rfl
    | false => simp only [Bool.false_eq_true, if_false, ih]
theorem putAll_rev {l : List TS} (h : l.Pairwise (fun a b => key a ≠ key b)) : putAll l.reverse = putAll l := by
  have hr : l.reverse.Pairwise (fun a b => key a ≠ key b) := List.pairwise_reverse.2 (h.imp (fun hab e => hab e.symm))
  obtain ⟨g1, g2⟩ := putAll_parts l [] List.Pairwise.nil (fun _ _ t ht => by cases ht) h
  obtain ⟨k1, k2⟩ := putAll_parts l.reverse [] List.Pairwise.nil (fun _ _ t ht => by cases ht) hr
  have e1 : ∀ x, x ∈ putAll l ↔ x ∈ l := fun x => by rw [show putAll l = l.foldl (fun acc s => putR s acc) [] from rfl, g2 x]; simp
  have e2 : ∀ x, x ∈ putAll l.reverse ↔ x ∈ l := fun x => by rw [show putAll l.reverse = l.reverse.foldl (fun acc s => putR s acc) [] from rfl, k2 x]; simp
  exact told_eqG ⟨g1, fun s hs => (e2 s).2 ((e1 s).1 hs), fun s hs => ⟨s, (e1 s).2 ((e2 s).1 hs), rfl⟩⟩ k1
theorem face_hid {m : TM} (h : m.okB = true) : faceL (hidM m) = faceL m := by
  unfold faceL
  rw [if_pos h, if_pos (hid_ok h)]
  show putAll (pubs ((m.funs.map hidF).reverse)) = _
  rw [pubs_hid]
  exact putAll_rev (pubs_keys (ok_funs h).2.2)
end Go.Proofs.YtffabnmgcicpiaaGreat
