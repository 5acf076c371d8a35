/- Lists of words: what joins them, and the walk of spec.LexJoin. Conditions: the slice can be read, and its words together take at most 2^20 bytes. -/
import Derived.Test.YtkegbdlbaanapaaDu
import Derived.Test.YtkegbdlbaanapaaWa
namespace Go.Proofs.Ytkegbdlbaanapaa
open Go.RowKit Go.PlainAid

/-- A slice of texts that can be read, all of it below the block n. -/
def Words (w : World) (n : Nat) (a : Option Addr) (ws : List ByteArray) : Prop :=
  ws = [] ∨ ∃ b off : Nat, a = some ⟨b, off, none⟩ ∧ b < n ∧ ∀ j (hj : j < ws.length), w.cell? ⟨b, off + j, none⟩ = some (.string ws[j])
theorem Words.kept {w w' : World} {n m : Nat} {a : Option Addr} {ws : List ByteArray} (h : Words w n a ws) (hb : Below n w w') (hnm : n ≤ m) : Words w' m a ws := by
  rcases h with h | ⟨b, off, h1, h2, h4⟩
  · exact .inl h
  · exact .inr ⟨b, off, h1, by omega, fun j hj => (hb.cell (p := ⟨b, off + j, none⟩) h2).trans (h4 j hj)⟩
def open_ (x : ByteArray) : Bool := x.toList == [40]
def shut_ (x : ByteArray) : Bool := x.toList == [41]
/-- What stands between a word and the next. -/
def sep (p : Option ByteArray) (x : ByteArray) : List UInt8 :=
  match p with
  | none => []
  | some p => if (!open_ p && !shut_ x) = true then [32] else []
def joinF (acc : List UInt8 × Option ByteArray) (x : ByteArray) : List UInt8 × Option ByteArray := (acc.1 ++ sep acc.2 x ++ x.data.toList, some x)
def joinW (ws : List ByteArray) : List UInt8 := (ws.foldl joinF ([], none)).1
theorem joinF_last (ws : List ByteArray) : (ws.foldl joinF ([], none)).2 = ws.getLast? := by
  rcases List.eq_nil_or_concat ws with rfl | ⟨t, c, rfl⟩
  · rfl
  · rw [List.concat_eq_append, List.foldl_append, List.getLast?_append]; rfl
theorem joinW_snoc (l : List ByteArray) (x : ByteArray) : joinW (l ++ [x]) = joinW l ++ sep l.getLast? x ++ x.data.toList := by
  unfold joinW
  rw [List.foldl_append, ← joinF_last]; rfl
theorem joinW_step (ws : List ByteArray) (k : Nat) (h : k < ws.length) : joinW (ws.take (k + 1)) = joinW (ws.take k) ++ sep (ws.take k).getLast? ws[k] ++ ws[k].data.toList := by
  rw [List.take_succ_eq_append_getElem h, joinW_snoc]
theorem last_zero (ws : List ByteArray) : (ws.take 0).getLast? = none := rfl
theorem last_succ (ws : List ByteArray) (k : Nat) (h : k < ws.length) : (ws.take (k + 1)).getLast? = some ws[k] := by
  rw [List.take_succ_eq_append_getElem h, List.getLast?_append]; rfl
def total (ws : List ByteArray) : Nat := (ws.map (fun x => x.size + 1)).sum
theorem total_snoc (l : List ByteArray) (x : ByteArray) : total (l ++ [x]) = total l + (x.size + 1) := by
  unfold total; rw [List.map_append, List.sum_append]; simp
theorem total_step (ws : List ByteArray) (k : Nat) (h : k < ws.length) : total (ws.take (k + 1)) = total (ws.take k) + (ws[k].size + 1) := by
  rw [List.take_succ_eq_append_getElem h, total_snoc]
theorem total_le (ws : List ByteArray) : ∀ k, total (ws.take k) ≤ total ws := by
  intro k
  have : total ws = total (ws.take k) + total (ws.drop k) := by
    unfold total
    conv => lhs; rw [← List.take_append_drop k ws]
    rw [List.map_append, List.sum_append]
  omega
theorem total_len (ws : List ByteArray) : ws.length ≤ total ws := by
  induction ws with
  | nil => exact Nat.zero_le _
  | cons a t ih =>
    have : total (a :: t) = a.size + 1 + total t := by unfold total; simp
    rw [List.length_cons]; omega
theorem sep_len (p : Option ByteArray) (x : ByteArray) : (sep p x).length ≤ 1 := by
  unfold sep
  cases p with
  | none => simp
  | some p => dsimp only; split <;> simp
theorem joinW_len (ws : List ByteArray) : ∀ k, k ≤ ws.length → (joinW (ws.take k)).length ≤ total (ws.take k) := by
  intro k
  induction k with
  | zero => intro _; exact Nat.le_refl _
  | succ k ih =>
    intro hk
    have := ih (by omega)
    have hs := sep_len (ws.take k).getLast? ws[k]
    rw [joinW_step ws k (by omega), total_step ws k (by omega), List.length_append, List.length_append, ← size_len]
    omega
theorem app_mk (x : List UInt8) (s : ByteArray) : (⟨x.toArray⟩ ++ s : ByteArray) = ⟨(x ++ s.data.toList).toArray⟩ := by
  obtain ⟨⟨y⟩⟩ := s
  exact ByteArray.mk_append_mk x y

theorem step_first (ws : List ByteArray) (k : Nat) (h : k < ws.length) (h0 : k = 0) : joinW (ws.take (k + 1)) = joinW (ws.take k) ++ ws[k].data.toList := by
  subst h0
  rw [joinW_step ws 0 h]; simp [sep]
theorem step_none (ws : List ByteArray) (k : Nat) (h : k < ws.length) (h0 : 0 < k) (hs : (ws[k - 1].toList == [40]) = true ∨ (ws[k].toList == [41]) = true) : joinW (ws.take (k + 1)) = joinW (ws.take k) ++ ws[k].data.toList := by
  obtain ⟨m, rfl⟩ : ∃ m, k = m + 1 := ⟨k - 1, by omega⟩
  rw [joinW_step ws (m + 1) h, last_succ ws m (by omega)]
  have e : sep (some ws[m]) ws[m + 1] = [] := by
    unfold sep open_ shut_
    rcases hs with hs | hs
    · have hs' : (ws[m].toList == [40]) = true := hs
      simp [hs']
    · simp [hs]
  rw [e, List.append_nil]
theorem step_blank (ws : List ByteArray) (k : Nat) (h : k < ws.length) (h0 : 0 < k) (hs : (ws[k - 1].toList == [40]) = false) (hs2 : (ws[k].toList == [41]) = false) : joinW (ws.take (k + 1)) = (joinW (ws.take k) ++ [32]) ++ ws[k].data.toList := by
  obtain ⟨m, rfl⟩ : ∃ m, k = m + 1 := ⟨k - 1, by omega⟩
  rw [joinW_step ws (m + 1) h, last_succ ws m (by omega)]
  have hs' : (ws[m].toList == [40]) = false := hs
  have e : sep (some ws[m]) ws[m + 1] = [32] := by
    unfold sep open_ shut_
    simp [hs', hs2]
  rw [e]

set_option maxHeartbeats 1000000 in
theorem LexJoinS_any (a : Option Addr) (cap : Nat) (ws : List ByteArray) (w : World) (h : Words w w.heap.size a ws) (ht : total ws ≤ 1048576) :
    Calls Try.prog 13 #[.slice a ws.length cap] w fun e w' => e = .returned (.string ⟨(joinW ws).toArray⟩) ∧ w = w' := by
  have hlen := total_len ws
  have hbig : ws.length ≤ 1048576 := by omega
  have HT := hide ht
  have HW := hide h
  clear h ht hlen
  go_enter Try.func13, Try.ntmps13
  go_wp2
  go_loop [3, 4] (fun o i => ∃ k : Nat, k ≤ ws.length ∧ i = .int .i64 k ∧ ∃ J : List UInt8, Hid (joinW (ws.take k) = J) ∧ o = .string ⟨J.toArray⟩) (fun _ i => ws.length - (intOf i).toNat)
  case atStart => exact ⟨0, Nat.zero_le _, rfl, [], hide rfl, rfl⟩
  case round =>
    obtain ⟨k, hk, rfl, J, HJ, rfl⟩ := hrel
    have hjl : J.length ≤ 1048576 := by
      have h1 := joinW_len ws k hk
      have h2 := total_le ws k
      have h3 := unhide HT
      rw [unhide HJ] at h1
      omega
    by_cases hp : k < ws.length
    · rcases unhide HW with h | ⟨b, off, rfl, hb, hc⟩
      · rw [h] at hp; simp at hp
      have hck := hc k hp
      have hsz : (ws[k]'hp).size ≤ 1048576 := by
        have h1 := total_step ws k hp
        have h2 := total_le ws (k + 1)
        have h3 := unhide HT
        omega
      obtain ⟨x, hx⟩ : ∃ x, ws[k]'hp = x := ⟨_, rfl⟩
      rw [hx] at hck hsz
      have HX := hide hx
      clear hx
      by_cases h0 : k = 0
      · have HS := hide (step_first ws k hp h0)
        rw [unhide HJ, unhide HX] at HS
        have hk0 : ¬ 0 < k := by omega
        clear h0 hc
        go_wp2
        go_round
        case rel => exact ⟨k + 1, by omega, by go_num, _, HS, by rw [app_mk]⟩
        case measure => simp [intOf]; omega
      have hk0 : 0 < k := by omega
      have hcp := hc (k - 1) (by omega)
      obtain ⟨q, hq⟩ : ∃ q, ws[k - 1]'(by omega) = q := ⟨_, rfl⟩
      rw [hq] at hcp
      have HQ := hide hq
      clear hq hc h0
      cases hx : (x.toList == [41]) with
      | true =>
        have HS := hide (step_none ws k hp hk0 (.inr (by rw [unhide HX]; exact hx)))
        rw [unhide HJ, unhide HX] at HS
        go_wp2
        go_round
        case rel => exact ⟨k + 1, by omega, by go_num, _, HS, by rw [app_mk]⟩
        case measure => simp [intOf]; omega
      | false =>
        cases hq : (q.toList == [40]) with
        | true =>
          have HS := hide (step_none ws k hp hk0 (.inl (by rw [unhide HQ]; exact hq)))
          rw [unhide HJ, unhide HX] at HS
          go_wp2
          go_round
          case rel => exact ⟨k + 1, by omega, by go_num, _, HS, by rw [app_mk]⟩
          case measure => simp [intOf]; omega
        | false =>
          have HS := hide (step_blank ws k hp hk0 (by rw [unhide HQ]; exact hq) (by rw [unhide HX]; exact hx))
          rw [unhide HJ, unhide HX] at HS
          go_wp2
          go_round
          case rel => exact ⟨k + 1, by omega, by go_num, _, HS, by rw [app_mk, app_mk]⟩
          case measure => simp [intOf]; omega
    · have HE : Hid (joinW ws = J) := hide (by rw [← unhide HJ, List.take_of_length_le (by omega)])
      go_wp2
      go_ret
      exact ⟨ret_str (by rw [unhide HE]), rfl⟩
end Go.Proofs.Ytkegbdlbaanapaa
