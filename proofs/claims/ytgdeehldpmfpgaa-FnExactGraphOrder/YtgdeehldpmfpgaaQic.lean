/- The order of nodes by a heap and counts, plain: what a walk keeps. No conditions. -/
import Derived.Test.YtgdeehldpmfpgaaQib
namespace Go.Proofs.Ytgdeehldpmfpgaa
open Go.RowKit Go.PlainAid

theorem leN_no {a b : ByteArray} (h : leN b a = false) : ltN a b := by
  have e := less_total b.toList a.toList
  unfold leN at h
  rw [← e] at h
  rw [← ltN_less]
  simpa using h
/-- The names ascend. -/
def AscG (l : List TG) : Prop := ∀ i j (hi : i < l.length) (hj : j < l.length), i < j → ltN l[i].name l[j].name
theorem GoodG.asc {l : List TG} (h : GoodG l) : AscG l := by
  intro i j hi hj hij
  induction j with
  | zero => omega
  | succ j ih =>
    have h1 := leN_no (h.2.2 j hj)
    by_cases e : i = j
    · subst e; exact h1
    · exact (ih (by omega) (by omega)).trans h1
theorem AscG.inj {l : List TG} (h : AscG l) {i j : Nat} (hi : i < l.length) (hj : j < l.length) (e : l[i].name.toList = l[j].name.toList) : i = j := by
  rcases Nat.lt_trichotomy i j with g | g | g
  · exact absurd (h i j hi hj g) (by unfold ltN; rw [e]; exact List.lt_irrefl _)
  · exact g
  · exact absurd (h j i hj hi g) (by unfold ltN; rw [e]; exact List.lt_irrefl _)
/-- What is ready in the middle of a round: one more is in the order, and the first j nodes were told. -/
def midL (l : List TG) (out : List ByteArray) (x : ByteArray) (j : Nat) : List TG := (l.take j).filter (canB (out ++ [x])) ++ (l.drop j).filter (fun n => canB out n && !(x.toList == n.name.toList))
theorem midL_start (l : List TG) (out : List ByteArray) (x : ByteArray) : midL l out x 0 = l.filter (fun n => canB out n && !(x.toList == n.name.toList)) := by simp [midL]
theorem midL_end (l : List TG) (out : List ByteArray) (x : ByteArray) : midL l out x l.length = l.filter (canB (out ++ [x])) := by simp [midL]
theorem midL_other {l : List TG} {out : List ByteArray} {x : ByteArray} {j : Nat} (hj : j < l.length) (h : hasW l[j].uses x = false) : midL l out x (j + 1) = midL l out x j := by
  unfold midL
  rw [List.take_succ_eq_append_getElem hj, List.drop_eq_getElem_cons hj, List.filter_append, List.append_assoc]
  congr 1
  rw [List.filter_cons, List.filter_cons, can_other h]
  cases (canB out l[j] && !(x.toList == l[j].name.toList)) <;> simp
theorem midL_user {l : List TG} {out : List ByteArray} {x : ByteArray} {j : Nat} (hj : j < l.length) (h : canB out l[j] = false) : (midL l out x (j + 1)).Perm (if canB (out ++ [x]) l[j] = true then midL l out x j ++ [l[j]] else midL l out x j) := by
  unfold midL
  rw [List.take_succ_eq_append_getElem hj, List.drop_eq_getElem_cons hj, List.filter_append, List.append_assoc, List.filter_cons, List.filter_cons, h]
  cases canB (out ++ [x]) l[j] with
  | false => simp
  | true =>
    simp only [if_true, Bool.false_and, Bool.false_eq_true, if_false, List.filter_nil, List.append_assoc]
    exact List.Perm.append_left _ List.perm_append_comm
theorem midL_len {l : List TG} {out : List ByteArray} {x : ByteArray} {j : Nat} (hj : j < l.length) (h : canB out l[j] = false) : (midL l out x j).length < l.length := by
  unfold midL
  rw [List.drop_eq_getElem_cons hj, List.filter_cons, h, List.length_append]
  have h1 := List.length_filter_le (canB (out ++ [x])) (l.take j)
  have h2 := List.length_filter_le (fun n => canB out n && !(x.toList == n.name.toList)) (l.drop (j + 1))
  rw [List.length_take] at h1
  rw [List.length_drop] at h2
  simp only [Bool.false_and, Bool.false_eq_true, if_false]
  omega
/-- What the walk keeps between two rounds. -/
structure KI (l : List TG) (R out : List ByteArray) (F : List UInt8 → Int) (xs : List ByteArray) : Prop where
  hz : xs.Perm ((l.filter (canB out)).map TG.name)
  hF : ∀ i (hi : i < l.length), F l[i].name.toList = (cntU out l[i].uses : Nat)
  hI : InOut l out
  hO : OG l out R
/-- What it keeps in the middle of a round. -/
structure KM (l : List TG) (out : List ByteArray) (x : ByteArray) (j : Nat) (F : List UInt8 → Int) (xs : List ByteArray) : Prop where
  hz : xs.Perm ((midL l out x j).map TG.name)
  hF : ∀ i (hi : i < l.length), F l[i].name.toList = if i < j then ((cntU (out ++ [x]) l[i].uses : Nat) : Int) else ((cntU out l[i].uses : Nat) : Int)
  hI : InOut l out
  hx : hasW out x = false
  hI2 : InOut l (out ++ [x])
theorem KI.len {l : List TG} {R out : List ByteArray} {F : List UInt8 → Int} {xs : List ByteArray} (h : KI l R out F xs) : xs.length ≤ l.length := by
  rw [h.hz.length_eq, List.length_map]
  exact List.length_filter_le _ _
/-- The heap is empty: that is the order. -/
theorem KI.done {l : List TG} {R out : List ByteArray} {F : List UInt8 → Int} (h : KI l R out F []) : out = R := h.hO.done (fun j hj => by
  rw [Bool.eq_false_iff]
  intro e
  have hm : l[j].name ∈ (l.filter (canB out)).map TG.name := List.mem_map_of_mem (List.mem_filter.2 ⟨List.getElem_mem hj, e⟩)
  have := h.hz.mem_iff.2 hm
  cases this)
theorem atF_mem {xs : List ByteArray} {c : Nat} (h : c < xs.length) : atF xs c ∈ xs := by
  have : atF xs c = xs[c] := by simp [atF, h]
  rw [this]
  exact List.getElem_mem h
theorem atF_of_mem {xs : List ByteArray} {s : ByteArray} (h : s ∈ xs) : ∃ c, c < xs.length ∧ atF xs c = s := by
  obtain ⟨c, hc, e⟩ := List.getElem_of_mem h
  exact ⟨c, hc, by rw [← e]; simp [atF, hc]⟩
theorem filter_one {l : List TG} (ha : AscG l) {k : Nat} (hk : k < l.length) (p : TG → Bool) (h : p l[k] = true) : (l.filter p).Perm (l[k] :: l.filter (fun n => p n && !(l[k].name.toList == n.name.toList))) := by
  have e1 : (l.take k).filter p = (l.take k).filter (fun n => p n && !(l[k].name.toList == n.name.toList)) := List.filter_congr (fun n hn => by
    obtain ⟨i, hi, rfl⟩ := List.getElem_of_mem hn
    rw [List.length_take] at hi
    have hne : (l[k].name.toList == ((l.take k)[i]).name.toList) = false := by
      rw [Bool.eq_false_iff]
      intro e
      rw [List.getElem_take] at e
      have := ha.inj hk (by omega : i < l.length) (beqL e)
      omega
    rw [hne]
    simp)
  have e2 : (l.drop (k + 1)).filter p = (l.drop (k + 1)).filter (fun n => p n && !(l[k].name.toList == n.name.toList)) := List.filter_congr (fun n hn => by
    obtain ⟨i, hi, rfl⟩ := List.getElem_of_mem hn
    rw [List.length_drop] at hi
    have hne : (l[k].name.toList == ((l.drop (k + 1))[i]).name.toList) = false := by
      rw [Bool.eq_false_iff]
      intro e
      rw [List.getElem_drop] at e
      have := ha.inj hk (by omega : k + 1 + i < l.length) (beqL e)
      omega
    rw [hne]
    simp)
  have e0 : l = l.take k ++ l[k] :: l.drop (k + 1) := by rw [← List.drop_eq_getElem_cons hk, List.take_append_drop]
  obtain ⟨g, hg⟩ : ∃ g, l[k] = g := ⟨_, rfl⟩
  rw [hg] at h e0 e1 e2 ⊢
  have f1 : l.filter p = (l.take k).filter p ++ g :: (l.drop (k + 1)).filter p := by
    conv => lhs; rw [e0]
    rw [List.filter_append, List.filter_cons, h]
    simp
  have f2 : l.filter (fun n => p n && !(g.name.toList == n.name.toList)) = (l.take k).filter p ++ (l.drop (k + 1)).filter p := by
    conv => lhs; rw [e0]
    rw [List.filter_append, List.filter_cons, ← e1, ← e2]
    simp
  rw [f1, f2]
  exact List.perm_middle
/-- The heap's top is the next of the order. -/
theorem KI.pop {l : List TG} {R out : List ByteArray} {F : List UInt8 → Int} {xs ys : List ByteArray} (h : KI l R out F xs) (ha : AscG l) (hh : HeapF (atF xs) xs.length) (h0 : 0 < xs.length) (hy : (ys ++ [atF xs 0]).Perm xs) : KM l out (atF xs 0) 0 F ys ∧ OG l (out ++ [atF xs 0]) R ∧ leftG l (out ++ [atF xs 0]) < leftG l out := by
  have hm := h.hz.mem_iff.1 (atF_mem h0)
  rw [List.mem_map] at hm
  obtain ⟨n, hn, hname⟩ := hm
  rw [List.mem_filter] at hn
  obtain ⟨hn, hcan⟩ := hn
  obtain ⟨k, hk, rfl⟩ := List.getElem_of_mem hn
  have hno : ∀ j (hj : j < l.length), j < k → canB out l[j] = false := by
    intro j hj hjk
    rw [Bool.eq_false_iff]
    intro e
    have hm : l[j].name ∈ xs := h.hz.mem_iff.2 (List.mem_map_of_mem (List.mem_filter.2 ⟨List.getElem_mem hj, e⟩))
    obtain ⟨c, hc, ec⟩ := atF_of_mem hm
    have ht := hh.top c hc
    rw [ec, ← hname] at ht
    exact ht (ha j k hj hk hjk)
  have hnx := h.hO.next hk hno hcan
  rw [hname] at hnx
  have hpc := hcan
  unfold canB at hpc
  rw [Bool.and_eq_true] at hpc
  have hx : hasW out (atF xs 0) = false := by
    rw [← hname]
    simpa using hpc.1
  refine ⟨⟨?_, fun i hi => by rw [if_neg (Nat.not_lt_zero _)]; exact h.hF i hi, h.hI, hx, ?_⟩, hnx⟩
  · rw [midL_start]
    have e1 : (atF xs 0 :: ys).Perm xs := (List.perm_append_comm (l₁ := [atF xs 0]) (l₂ := ys)).trans hy
    have e2 := (e1.trans h.hz).trans ((filter_one ha hk (canB out) hcan).map TG.name)
    rw [List.map_cons, hname] at e2
    exact e2.cons_inv
  · intro g hg e
    rw [hasW_snoc, Bool.or_eq_true] at e
    rcases e with e | e
    · exact ready_more (h.hI g hg e)
    · obtain ⟨i, hi, rfl⟩ := List.getElem_of_mem hg
      rw [← hname] at e
      have := ha.inj hk hi (beqL e)
      subst this
      exact ready_more hpc.2
/-- A node that does not want it. -/
theorem KM.other {l : List TG} {out : List ByteArray} {x : ByteArray} {j : Nat} {F : List UInt8 → Int} {xs : List ByteArray} (h : KM l out x j F xs) (hj : j < l.length) (hu : hasW l[j].uses x = false) : KM l out x (j + 1) F xs := by
  refine ⟨by rw [midL_other hj hu]; exact h.hz, fun i hi => ?_, h.hI, h.hx, h.hI2⟩
  rw [h.hF i hi]
  by_cases e : i = j
  · subst e
    rw [if_neg (by omega), if_pos (by omega), cntU_out l[i].uses hu]
  · by_cases g : i < j
    · rw [if_pos g, if_pos (by omega)]
    · rw [if_neg g, if_neg (by omega)]
/-- A node that wants it, is not ready without it. -/
theorem KM.no {l : List TG} {out : List ByteArray} {x : ByteArray} {j : Nat} {F : List UInt8 → Int} {xs : List ByteArray} (h : KM l out x j F xs) (hj : j < l.length) (hu : hasW l[j].uses x = true) : readyB l[j] out = false := by
  have hc := cntU_in (s := out) l[j].uses hu h.hx
  rw [Bool.eq_false_iff]
  intro e
  rw [ready_cnt] at e
  omega
theorem KM.ne {l : List TG} {out : List ByteArray} {x : ByteArray} {j : Nat} {F : List UInt8 → Int} {xs : List ByteArray} (h : KM l out x j F xs) (hj : j < l.length) (hcan : ∃ k, ∃ hk : k < l.length, canB out l[k] = true ∧ l[k].name.toList = x.toList) (ha : AscG l) (hu : hasW l[j].uses x = true) : (x.toList == l[j].name.toList) = false := by
  rw [Bool.eq_false_iff]
  intro e
  obtain ⟨k, hk, hc, en⟩ := hcan
  have := ha.inj hk hj (en.trans (beqL e))
  subst this
  unfold canB at hc
  rw [h.no hk hu, Bool.and_false] at hc
  cases hc
theorem KM.end {l : List TG} {R out : List ByteArray} {x : ByteArray} {F : List UInt8 → Int} {xs : List ByteArray} (h : KM l out x l.length F xs) (hO : OG l (out ++ [x]) R) : KI l R (out ++ [x]) F xs := by
  refine ⟨by rw [← midL_end]; exact h.hz, fun i hi => ?_, h.hI2, hO⟩
  rw [h.hF i hi, if_pos hi]
end Go.Proofs.Ytgdeehldpmfpgaa
