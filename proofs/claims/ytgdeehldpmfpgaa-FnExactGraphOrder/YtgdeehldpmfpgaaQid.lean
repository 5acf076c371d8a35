/- The order of nodes by a heap and counts, plain: a node that wants what came, and the beginning. No conditions. -/
import Derived.Test.YtgdeehldpmfpgaaQic
namespace Go.Proofs.Ytgdeehldpmfpgaa
open Go.RowKit Go.PlainAid

/-- The one that came is a node that could come. -/
def Came (l : List TG) (out : List ByteArray) (x : ByteArray) : Prop := ∃ k, ∃ hk : k < l.length, canB out l[k] = true ∧ l[k].name.toList = x.toList
theorem KI.came {l : List TG} {R out : List ByteArray} {F : List UInt8 → Int} {xs : List ByteArray} (h : KI l R out F xs) (h0 : 0 < xs.length) : Came l out (atF xs 0) := by
  have hm := h.hz.mem_iff.1 (atF_mem h0)
  rw [List.mem_map] at hm
  obtain ⟨n, hn, hname⟩ := hm
  rw [List.mem_filter] at hn
  obtain ⟨hn, hcan⟩ := hn
  obtain ⟨k, hk, rfl⟩ := List.getElem_of_mem hn
  exact ⟨k, hk, hcan, by rw [hname]⟩
theorem KI.size {l : List TG} {R out : List ByteArray} {F : List UInt8 → Int} {xs : List ByteArray} (h : KI l R out F xs) (h0 : 0 < xs.length) : ∃ k, ∃ hk : k < l.length, atF xs 0 = l[k].name := by
  have hm := h.hz.mem_iff.1 (atF_mem h0)
  rw [List.mem_map] at hm
  obtain ⟨n, hn, hname⟩ := hm
  rw [List.mem_filter] at hn
  obtain ⟨k, hk, rfl⟩ := List.getElem_of_mem hn.1
  exact ⟨k, hk, hname.symm⟩
/-- What is told of a node that wants what came. -/
theorem KM.user {l : List TG} {out : List ByteArray} {x : ByteArray} {j : Nat} {F : List UInt8 → Int} {xs : List ByteArray} (h : KM l out x j F xs) (ha : AscG l) (hC : Came l out x) (hj : j < l.length) (hu : hasW l[j].uses x = true) (h4 : l[j].uses.length ≤ 4) :
    xs.length < l.length ∧ 1 ≤ F l[j].name.toList ∧ F l[j].name.toList ≤ 4 ∧ ∀ zs : List ByteArray, zs.Perm (if F l[j].name.toList = 1 then xs ++ [l[j].name] else xs) → KM l out x (j + 1) (setF F l[j].name.toList (F l[j].name.toList - 1)) zs := by
  have hne := h.ne hj hC ha hu
  obtain ⟨hc1, hc2, hc3, hc4⟩ := can_user h.hI (List.getElem_mem hj) hu h.hx hne
  have hFj := h.hF j hj
  rw [if_neg (Nat.lt_irrefl _)] at hFj
  have hle := cntU_le out l[j].uses
  refine ⟨?_, by omega, by omega, fun zs hz => ⟨?_, fun i hi => ?_, h.hI, h.hx, h.hI2⟩⟩
  · rw [h.hz.length_eq, List.length_map]
    exact midL_len hj hc1
  · have e := (midL_user (x := x) hj hc1).map TG.name
    refine List.Perm.trans ?_ e.symm
    refine hz.trans ?_
    by_cases g : canB (out ++ [x]) l[j] = true
    · have g0 := hc3.1 g
      rw [if_pos g, if_pos (by omega), List.map_append]
      exact h.hz.append_right _
    · have g0 : cntU (out ++ [x]) l[j].uses ≠ 0 := fun c => g (hc3.2 c)
      rw [if_neg g, if_neg (by omega)]
      exact h.hz
  · unfold setF
    by_cases e : i = j
    · subst e
      rw [if_pos rfl, if_pos (by omega), hFj, hc4]
      omega
    · rw [if_neg (fun c => e (ha.inj hi hj c)), h.hF i hi]
      by_cases g : i < j
      · rw [if_pos g, if_pos (by omega)]
      · rw [if_neg g, if_neg (by omega)]
/-- What the walk keeps at its beginning: the first j nodes wait. -/
structure KW (l : List TG) (j : Nat) (F : List UInt8 → Int) (xs : List ByteArray) : Prop where
  hz : xs.Perm (((l.take j).filter (canB [])).map TG.name)
  hF : ∀ i (hi : i < l.length), i < j → F l[i].name.toList = (cntU [] l[i].uses : Nat)
theorem KW.start (l : List TG) (F : List UInt8 → Int) : KW l 0 F [] := ⟨by simp, fun i _ h => absurd h (Nat.not_lt_zero _)⟩
theorem KW.len {l : List TG} {j : Nat} {F : List UInt8 → Int} {xs : List ByteArray} (h : KW l j F xs) : xs.length ≤ j := by
  rw [h.hz.length_eq, List.length_map]
  have h1 := List.length_filter_le (canB []) (l.take j)
  rw [List.length_take] at h1
  omega
theorem KW.next {l : List TG} {j : Nat} {F : List UInt8 → Int} {xs zs : List ByteArray} (h : KW l j F xs) (ha : AscG l) (hj : j < l.length) (hz : zs.Perm (if cntU [] l[j].uses = 0 then xs ++ [l[j].name] else xs)) : KW l (j + 1) (setF F l[j].name.toList (cntU [] l[j].uses : Nat)) zs := by
  have hcan : canB [] l[j] = true ↔ cntU [] l[j].uses = 0 := by
    rw [← ready_cnt]
    unfold canB
    simp [hasW]
  refine ⟨hz.trans ?_, fun i hi hij => ?_⟩
  · rw [List.take_succ_eq_append_getElem hj, List.filter_append, List.map_append, List.filter_cons]
    by_cases g : canB [] l[j] = true
    · rw [if_pos (hcan.1 g), if_pos g]
      exact h.hz.append_right _
    · rw [if_neg (fun c => g (hcan.2 c)), if_neg g]
      simpa using h.hz
  · unfold setF
    by_cases e : i = j
    · subst e
      rw [if_pos rfl]
    · rw [if_neg (fun c => e (ha.inj hi hj c)), h.hF i hi (by omega)]
theorem KW.end {l : List TG} {F : List UInt8 → Int} {xs : List ByteArray} {R : List ByteArray} (h : KW l l.length F xs) (hO : OG l [] R) : KI l R [] F xs := by
  refine ⟨?_, fun i hi => h.hF i hi hi, fun n _ e => by simp [hasW] at e, hO⟩
  have := h.hz
  rw [List.take_length] at this
  exact this
end Go.Proofs.Ytgdeehldpmfpgaa
