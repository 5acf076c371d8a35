/- The order of nodes by counts of what is missing, plain. No conditions. -/
import Derived.Test.YtgdeehldpmfpgaaQia
namespace Go.Proofs.Ytgdeehldpmfpgaa
open Go.RowKit Go.PlainAid

theorem hasW_eq {s : List ByteArray} {y z : ByteArray} (h : (y.toList == z.toList) = true) : hasW s y = hasW s z := by
  have e : y.toList = z.toList := by simpa using h
  unfold hasW
  rw [e]
theorem bsym (x y : ByteArray) : (x.toList == y.toList) = (y.toList == x.toList) := by rw [Bool.eq_iff_iff]; simp; exact eq_comm
theorem beqL {x y : ByteArray} (h : (x.toList == y.toList) = true) : x.toList = y.toList := by simpa using h
theorem cntU_congr {s1 s2 : List ByteArray} (h : ∀ z, hasW s1 z = hasW s2 z) (ws : List ByteArray) : cntU s1 ws = cntU s2 ws := by
  induction ws generalizing s1 s2 with
  | nil => rfl
  | cons y t ih =>
    have e : cntU (s1 ++ [y]) t = cntU (s2 ++ [y]) t := ih (fun z => by rw [hasW_snoc s1, hasW_snoc s2, h z])
    rw [cntU, cntU, h y, e]
theorem cntU_swap (s : List ByteArray) (x y : ByteArray) (t : List ByteArray) : cntU (s ++ [x] ++ [y]) t = cntU (s ++ [y] ++ [x]) t := cntU_congr (fun z => by
  rw [hasW_snoc (s ++ [x]) y z, hasW_snoc s x z, hasW_snoc (s ++ [y]) x z, hasW_snoc s y z]
  cases hasW s z <;> cases (x.toList == z.toList) <;> cases (y.toList == z.toList) <;> rfl) t
theorem hasW_snoc_in {s : List ByteArray} {y : ByteArray} (h : hasW s y = true) (z : ByteArray) : hasW (s ++ [y]) z = hasW s z := by
  rw [hasW_snoc]
  cases he : (y.toList == z.toList) with
  | false => simp
  | true => rw [← hasW_eq he, h]; rfl
theorem cntU_zero (s ws : List ByteArray) : cntU s ws = 0 ↔ ws.all (hasW s) = true := by
  induction ws generalizing s with
  | nil => simp [cntU]
  | cons y t ih =>
    rw [cntU, List.all_cons]
    cases h : hasW s y with
    | false => simp
    | true =>
      rw [cntU_congr (hasW_snoc_in h) t]
      simp only [if_true, Nat.zero_add, Bool.true_and]
      exact ih s
theorem ready_cnt (n : TG) (out : List ByteArray) : readyB n out = true ↔ cntU out n.uses = 0 := (cntU_zero out n.uses).symm
theorem hasW_cons (y : ByteArray) (t : List ByteArray) (x : ByteArray) : hasW (y :: t) x = ((y.toList == x.toList) || hasW t x) := by unfold hasW; rw [List.any_cons]
theorem cntU_out {s : List ByteArray} {x : ByteArray} (ws : List ByteArray) (h : hasW ws x = false) : cntU (s ++ [x]) ws = cntU s ws := by
  induction ws generalizing s with
  | nil => rfl
  | cons y t ih =>
    rw [hasW_cons, Bool.or_eq_false_iff] at h
    have h3 : (x.toList == y.toList) = false := by rw [bsym]; exact h.1
    rw [cntU, cntU, hasW_snoc s x y, h3, Bool.or_false, cntU_swap, ih h.2]
theorem cntU_in {s : List ByteArray} {x : ByteArray} (ws : List ByteArray) (h : hasW ws x = true) (hs : hasW s x = false) : cntU s ws = cntU (s ++ [x]) ws + 1 := by
  induction ws generalizing s with
  | nil => simp [hasW] at h
  | cons y t ih =>
    cases h1 : (y.toList == x.toList) with
    | true =>
      have hsy : hasW s y = false := by rw [hasW_eq h1]; exact hs
      have hxy : (x.toList == y.toList) = true := by rw [bsym]; exact h1
      have e : cntU (s ++ [x] ++ [y]) t = cntU (s ++ [y]) t := cntU_congr (fun z => by
        have hz : (x.toList == z.toList) = (y.toList == z.toList) := by rw [beqL h1]
        rw [hasW_snoc (s ++ [x]) y z, hasW_snoc s x z, hasW_snoc s y z, hz]
        cases hasW s z <;> cases (y.toList == z.toList) <;> rfl) t
      rw [cntU, cntU, hsy, hasW_snoc s x y, hxy, Bool.or_true, e]
      simp
      omega
    | false =>
      have h2 : hasW t x = true := by rw [hasW_cons, h1, Bool.false_or] at h; exact h
      have h3 : (x.toList == y.toList) = false := by rw [bsym]; exact h1
      have hsx : hasW (s ++ [y]) x = false := by rw [hasW_snoc, hs, h1]; rfl
      have e := ih h2 hsx
      rw [cntU, cntU, hasW_snoc s x y, h3, Bool.or_false, cntU_swap, e]
      omega
/-- A node that can come, behind one more in the order. -/
theorem can_other {out : List ByteArray} {x : ByteArray} {n : TG} (h : hasW n.uses x = false) : canB (out ++ [x]) n = (canB out n && !(x.toList == n.name.toList)) := by
  have hr : readyB n (out ++ [x]) = readyB n out := by
    rw [Bool.eq_iff_iff, ready_cnt, ready_cnt, cntU_out n.uses h]
  unfold canB
  rw [hr, hasW_snoc]
  cases hasW out n.name <;> cases (x.toList == n.name.toList) <;> cases readyB n out <;> rfl
/-- All of the order is ready. -/
def InOut (l : List TG) (out : List ByteArray) : Prop := ∀ n ∈ l, hasW out n.name = true → readyB n out = true
theorem ready_more {out : List ByteArray} {x : ByteArray} {n : TG} (h : readyB n out = true) : readyB n (out ++ [x]) = true := by
  unfold readyB at h ⊢
  rw [List.all_eq_true] at h ⊢
  intro y hy
  rw [hasW_snoc, h y hy]
  rfl
/-- A node that wants the one that comes: it is not in the order, nor can it have come before. -/
theorem can_user {l : List TG} {out : List ByteArray} {x : ByteArray} {n : TG} (hI : InOut l out) (hn : n ∈ l) (h : hasW n.uses x = true) (hx : hasW out x = false) (hne : (x.toList == n.name.toList) = false) : canB out n = false ∧ hasW out n.name = false ∧ (canB (out ++ [x]) n = true ↔ cntU (out ++ [x]) n.uses = 0) ∧ cntU out n.uses = cntU (out ++ [x]) n.uses + 1 := by
  have hc := cntU_in (s := out) n.uses h hx
  have hr : readyB n out = false := by
    rw [Bool.eq_false_iff]
    intro e
    rw [ready_cnt] at e
    omega
  have ho : hasW out n.name = false := by
    rw [Bool.eq_false_iff]
    intro e
    rw [hI n hn e] at hr
    cases hr
  refine ⟨by unfold canB; rw [hr, Bool.and_false], ho, ?_, hc⟩
  unfold canB
  rw [hasW_snoc, ho, hne, ← ready_cnt]
  simp
end Go.Proofs.Ytgdeehldpmfpgaa
