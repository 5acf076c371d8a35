/- What marking leaves: the cells of the marked blocks are of the kinds that they were, those that hold slices as they were; all else is as it was. No conditions. And: The walk of markText. Conditions: the number is above 0 and below 10 to the 12. -/
import Derived.Test.YtgdeehldpmfpgaaFa
namespace Go.Proofs.Ytgdeehldpmfpgaa
open Go.RowKit Go.PlainAid

def dig (n : Nat) : UInt8 := UInt8.ofNat (48 + n)
theorem dig_toNat (n : Nat) (h : n ≤ 9) : (dig n).toNat = 48 + n := by
  unfold dig
  rw [UInt8.toNat_ofNat']
  exact Nat.mod_eq_of_lt (by omega)
theorem conv1 (W : World) (z : Int) (c : UInt8) (h : (c.toNat : Int) = z) : (convert 22 9 (.slice (some ⟨W.heap.size, 0, none⟩) 1 1)).run Try.prog (W.alloc (.cells #[.int .u8 z] 5)) = .ok (.string ⟨#[c]⟩) (W.alloc (.cells #[.int .u8 z] 5)) := by
  have h1 := run_convert_bytes_back (P := Try.prog) (W.alloc (.cells #[.int .u8 z] 5)) 22 9 5 ⟨W.heap.size, 0, none⟩ 1 [c] Try.underlying22 Try.underlying5 Try.underlying9 (fun j hj => by
    have : j = 0 := by simpa using hj
    subst this
    simp [Addr.add, h])
  simpa using h1
theorem cons_mk (c : UInt8) (acc : List UInt8) : (⟨#[c]⟩ ++ ⟨acc.toArray⟩ : ByteArray) = ⟨(c :: acc).toArray⟩ := by
  have := ByteArray.mk_append_mk [c] acc
  simpa using this
theorem ret_str {a b : ByteArray} (h : a = b) : Ending.returned (.string a) = .returned (.string b) := by rw [h]
def mtF : Nat → Nat → List UInt8 → List UInt8
  | 0, _, out => out
  | f + 1, n, out => if 0 < n then mtF f (n / 10) (dig (n % 10) :: out) else out
/-- The mark of a number. -/
def mt (n : Nat) : ByteArray := ⟨(109 :: mtF 20 n []).toArray⟩

theorem mtF_go {f m : Nat} {acc : List UInt8} (h : 0 < m) : mtF (f + 1) m acc = mtF f (m / 10) (dig (m % 10) :: acc) := by rw [mtF, if_pos h]
theorem mtF_end {f m : Nat} {acc : List UInt8} (h : ¬ 0 < m) : mtF (f + 1) m acc = acc := by rw [mtF, if_neg h]
theorem mt_step {f m : Nat} (h : m < 10 ^ (f + 1)) : m / 10 < 10 ^ f := by rw [Nat.pow_succ] at h; exact Nat.div_lt_of_lt_mul (by omega)

set_option maxHeartbeats 400000 in
theorem markText_any (N : Nat) (h0 : 0 < N) (hN : N < 1000000000000) (w : World) :
    Calls Try.prog 51 #[.int .i64 N] w fun e w' => e = .returned (.string (mt N)) ∧ Below w.heap.size w w' := by
  go_enter Try.func51, Try.ntmps51
  go_wp2
  go_loopw [0, 3] (fun n o wr => ∃ (f m : Nat) (acc : List UInt8), n = .int .i64 m ∧ o = .string ⟨acc.toArray⟩ ∧ Hid (mtF (f + 1) m acc = mtF 20 N []) ∧ Hid (m < 10 ^ f) ∧ m < 1000000000000 ∧ acc.length + f ≤ 19 ∧ Hid (Below w.heap.size w wr)) (fun n _ _ => (intOf n).toNat)
  case atStart => exact ⟨19, N, [], rfl, rfl, hide rfl, hide (by omega), hN, by simp, hide (Below.refl _ _)⟩
  case round =>
    obtain ⟨f, m, acc, rfl, rfl, HF, HM, hm, hlf, HB⟩ := hrel
    have hl : acc.length ≤ 100 := by omega
    by_cases h9 : 0 < m
    · have hcv := fun W => conv1 W (48 + (m : Int) % 10) (dig (m % 10)) (by rw [dig_toNat _ (by omega)]; omega)
      cases f with
      | zero =>
        have := unhide HM
        simp at this
        omega
      | succ f =>
        have HG := hide (mt_step (unhide HM))
        have HE := hide (mtF_go (f := f + 1) (acc := acc) h9)
        go_wp2
        go_roundw
        case rel =>
          refine ⟨f, m / 10, dig (m % 10) :: acc, by go_num, by rw [cons_mk], hide ?_, HG, by omega, by simp; omega, hide ((unhide HB).alloc (unhide HB).size _)⟩
          rw [← unhide HE]; exact unhide HF
        case measure => simp [intOf]; omega
    · have HE : Hid (mt N = ⟨(109 :: acc).toArray⟩) := hide (by unfold mt; rw [← unhide HF, mtF_end h9])
      go_wp2
      go_ret
      exact ⟨ret_str (by rw [unhide HE]; exact cons_mk 109 acc), unhide HB⟩

/-- Two cells of one kind; the same, if they are not numbers, texts or truths. -/
def Ak (x y : Value) : Prop := x = y ∨ (∃ i j, x = .int .i64 i ∧ y = .int .i64 j) ∨ (∃ s t, x = .string s ∧ y = .string t) ∨ ∃ b c, x = .bool b ∧ y = .bool c
theorem Ak.rfl (x : Value) : Ak x x := .inl (Eq.refl x)
theorem Ak.trans {x y z : Value} (h : Ak x y) (k : Ak y z) : Ak x z := by
  rcases h with rfl | ⟨i, j, rfl, rfl⟩ | ⟨i, j, rfl, rfl⟩ | ⟨i, j, rfl, rfl⟩
  · exact k
  · rcases k with rfl | ⟨a, b, h, rfl⟩ | ⟨a, b, h, rfl⟩ | ⟨a, b, h, rfl⟩
    · exact .inr (.inl ⟨_, _, Eq.refl _, Eq.refl _⟩)
    · exact .inr (.inl ⟨_, _, Eq.refl _, Eq.refl _⟩)
    · cases h
    · cases h
  · rcases k with rfl | ⟨a, b, h, rfl⟩ | ⟨a, b, h, rfl⟩ | ⟨a, b, h, rfl⟩
    · exact .inr (.inr (.inl ⟨_, _, Eq.refl _, Eq.refl _⟩))
    · cases h
    · exact .inr (.inr (.inl ⟨_, _, Eq.refl _, Eq.refl _⟩))
    · cases h
  · rcases k with rfl | ⟨a, b, h, rfl⟩ | ⟨a, b, h, rfl⟩ | ⟨a, b, h, rfl⟩
    · exact .inr (.inr (.inr ⟨_, _, Eq.refl _, Eq.refl _⟩))
    · cases h
    · cases h
    · exact .inr (.inr (.inr ⟨_, _, Eq.refl _, Eq.refl _⟩))
theorem Ak.int {i : Int} {y : Value} (h : Ak (.int .i64 i) y) : ∃ j, y = .int .i64 j := by
  rcases h with rfl | ⟨_, j, _, rfl⟩ | ⟨_, _, h, _⟩ | ⟨_, _, h, _⟩
  · exact ⟨_, Eq.refl _⟩
  · exact ⟨_, Eq.refl _⟩
  · cases h
  · cases h
theorem Ak.str {s : ByteArray} {y : Value} (h : Ak (.string s) y) : ∃ t, y = .string t := by
  rcases h with rfl | ⟨_, _, h, _⟩ | ⟨_, _, _, rfl⟩ | ⟨_, _, h, _⟩
  · exact ⟨_, Eq.refl _⟩
  · cases h
  · exact ⟨_, Eq.refl _⟩
  · cases h
theorem Ak.bool {s : Bool} {y : Value} (h : Ak (.bool s) y) : ∃ t, y = .bool t := by
  rcases h with rfl | ⟨_, _, h, _⟩ | ⟨_, _, h, _⟩ | ⟨_, _, _, rfl⟩
  · exact ⟨_, Eq.refl _⟩
  · cases h
  · cases h
  · exact ⟨_, Eq.refl _⟩
theorem Ak.slice {a : Option Addr} {l c : Nat} {y : Value} (h : Ak (.slice a l c) y) : y = .slice a l c := by
  rcases h with rfl | ⟨_, _, h, _⟩ | ⟨_, _, h, _⟩ | ⟨_, _, h, _⟩
  · exact Eq.refl _
  · cases h
  · cases h
  · cases h
/-- What marking in the blocks from lo on and below n leaves. -/
structure Mk (lo n : Nat) (w w' : World) : Prop where
  low : Below lo w w'
  high : ∀ b, n ≤ b → b < w.heap.size → w'.heap[b]? = w.heap[b]?
  al : ∀ b j v, lo ≤ b → b < n → w.cell? ⟨b, j, none⟩ = some v → ∃ v', w'.cell? ⟨b, j, none⟩ = some v' ∧ Ak v v'
  fz : ∀ b j, lo ≤ b → b < n → w'.frozen? ⟨b, j, none⟩ = w.frozen? ⟨b, j, none⟩
theorem Mk.refl (lo n : Nat) (w : World) : Mk lo n w w := ⟨Below.refl _ _, fun _ _ _ => rfl, fun _ _ v _ _ h => ⟨v, h, .rfl v⟩, fun _ _ _ _ => rfl⟩
theorem Mk.trans {lo n : Nat} {a b c : World} (h : Mk lo n a b) (k : Mk lo n b c) : Mk lo n a c := by
  refine ⟨h.low.trans k.low, fun x h1 h2 => ?_, fun x j v h1 h2 hv => ?_, fun x j h1 h2 => (k.fz x j h1 h2).trans (h.fz x j h1 h2)⟩
  · exact (k.high x h1 (Nat.lt_of_lt_of_le h2 h.low.size)).trans (h.high x h1 h2)
  · obtain ⟨v', hv', ha⟩ := h.al x j v h1 h2 hv
    obtain ⟨v'', hv'', hb⟩ := k.al x j v' h1 h2 hv'
    exact ⟨v'', hv'', ha.trans hb⟩
theorem Mk.below {lo n : Nat} {w w' : World} (h : Below w.heap.size w w') (hn : n ≤ w.heap.size) (hl : lo ≤ w.heap.size) : Mk lo n w w' :=
  ⟨h.mono hl, fun b _ hb => h.block b hb, fun b j v _ hb hv => ⟨v, (h.cell (p := ⟨b, j, none⟩) (Nat.lt_of_lt_of_le hb hn)).trans hv, .rfl v⟩, fun b j _ hb => h.frozen (p := ⟨b, j, none⟩) (Nat.lt_of_lt_of_le hb hn)⟩
theorem Mk.set {lo n B j : Nat} {w : World} {u v : Value} (hc : w.cell? ⟨B, j, none⟩ = some u) (ha : Ak u v) (hl : lo ≤ B) (hn : B < n) : Mk lo n w (w.setCell ⟨B, j, none⟩ v) := by
  refine ⟨(Below.refl _ _).setCell (p := ⟨B, j, none⟩) hl v, fun b hb _ => Below.heap_setCell _ _ _ _ (by simp; omega), fun b i x h1 h2 hx => ?_, fun b i _ _ => World.frozen?_setCell ..⟩
  by_cases e : b = B ∧ i = j
  · obtain ⟨rfl, rfl⟩ := e
    rw [hc] at hx
    cases hx
    exact ⟨v, cell_same _ _ _ _ (by rw [hc]; rfl), ha⟩
  · refine ⟨x, ?_, .rfl x⟩
    rw [World.cell?_setCell_other _ ⟨B, j, none⟩ ⟨b, i, none⟩ _ (by simp <;> omega)]
    exact hx
theorem Mk.size {lo n : Nat} {w w' : World} (h : Mk lo n w w') : w.heap.size ≤ w'.heap.size := h.low.size
/-- A block of the marked ones may be written. -/
def Fr (w : World) (lo n : Nat) : Prop := ∀ b j, lo ≤ b → b < n → w.frozen? ⟨b, j, none⟩ = false
theorem Fr.mk {w w' : World} {lo n : Nat} (h : Fr w lo n) (k : Mk lo n w w') : Fr w' lo n := fun b j h1 h2 => (k.fz b j h1 h2).trans (h b j h1 h2)
/-- The contract of a mark-walk: it counts on, at most m, and leaves what marking leaves. -/
def MkCalls (lo n : Nat) (f : FuncId) (v : Value) (k m : Nat) (w : World) : Prop :=
  Calls Try.prog f #[v, .int .i64 (k : Int)] w fun e w' => ∃ k' : Nat, e = .returned (.int .i64 (k' : Int)) ∧ k ≤ k' ∧ k' ≤ k + m ∧ Mk lo n w w'
end Go.Proofs.Ytgdeehldpmfpgaa
