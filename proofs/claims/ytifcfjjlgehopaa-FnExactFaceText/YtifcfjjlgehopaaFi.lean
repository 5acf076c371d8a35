/- The walk of impl.faceLineOf. Conditions: the signature can be read, and has at most four parameters. -/
import Derived.Test.YtifcfjjlgehopaaFh
import Derived.Laws.IdiomCopy
namespace Go.Proofs.Ytifcfjjlgehopaa
open Go.RowKit Go.PlainAid

theorem row_cells {w : World} {lo n : Nat} {a : Option Addr} {x : Int} {zs : List Int} (h : IsInts w lo n a (x :: zs)) : ∃ b off : Nat, a = some ⟨b, off, none⟩ ∧ b < n ∧ ∀ j (hj : j < (x :: zs).length), w.cell? ⟨b, off + j, none⟩ = some (.int .i64 (x :: zs)[j]) := by
  rcases h with h | ⟨b, off, h1, h0, h2, h3⟩
  · cases h
  · exact ⟨b, off, h1, h2, h3⟩
theorem intsize : (Try.prog.info? 3).map (·.size) = some 1 := by kernel_rfl
theorem copyF (W : World) (B b off n ca : Nat) (cs : List Value) (hn : cs.length = n) (h4 : n ≤ 4) (hsrc : ∀ j v, cs[j]? = some v → W.cell? ⟨b, off + j, none⟩ = some v) (hB : ∀ j, j < 6 → (W.cell? ⟨B, j, none⟩).isSome = true) (hf : ∀ j, W.frozen? ⟨B, j, none⟩ = false) (h1 : ∀ v ∈ cs, v.oneCell' = true) :
    (Builtin.copy_ #[44, 44] 3 #[.slice (some ⟨B, 1, none⟩) 4 4, .slice (some ⟨b, off, none⟩) n ca]).run Try.prog W = .ok (goInt n) (W.setCells B 1 cs) := by
  have := run_copy_cells (P := Try.prog) W 44 44 3 3 B 1 4 4 ⟨b, off, none⟩ n ca cs Try.underlying44 intsize (by rw [hn]; exact (Nat.min_eq_left h4).symm) (fun j v hv => by rw [Addr.add_lit]; exact hsrc j v hv) (fun j hj => hB _ (by omega)) (fun j _ => hf _) h1
  rw [hn] at this
  exact this
theorem copyF0 (W : World) (d a : Option Addr) (ca : Nat) : (Builtin.copy_ #[44, 44] 3 #[.slice d 4 4, .slice a 0 ca]).run Try.prog W = .ok (goInt 0) W :=
  run_copy_none (P := Try.prog) W 44 44 3 3 d a 4 4 0 ca Try.underlying44 intsize rfl
theorem new_third (w : World) (o1 o2 : Obj) (C : Array Value) (t : TypeId) (i : Nat) : (((w.alloc o1).alloc o2).alloc (.cells C t)).drew.cell? ⟨w.heap.size + 1 + 1, i, none⟩ = C[i]? ∧ (((w.alloc o1).alloc o2).alloc (.cells C t)).drew.frozen? ⟨w.heap.size + 1 + 1, i, none⟩ = false := by
  have e : w.heap.size + 1 + 1 = ((w.alloc o1).alloc o2).heap.size := by rw [alloc_size, alloc_size]
  rw [e]
  exact ⟨alloc_cell _ _ _ _, new_frozen _ _ _ _⟩

set_option maxHeartbeats 1000000 in
theorem faceLineOf_0 (lo : Nat) (aa : Option Addr) (ca : Nat) (nm : ByteArray) (ty : Int) (w : World) (_ : IsInts w lo w.heap.size aa []) :
    Calls Try.prog 22 #[.agg #[.string nm, .slice aa 0 ca, .int .i64 ty]] w fun r w' => r = .returned (.agg #[.string nm, .int .i64 0, .int .i64 0, .int .i64 0, .int .i64 0, .int .i64 ty]) ∧ Below w.heap.size w w' := by
  have hcp : (Builtin.copy_ #[44, 44] 3 #[.slice (some ⟨w.heap.size + 1 + 1, 1, none⟩) 4 4, .slice aa 0 ca]).run Try.prog (((w.alloc (.cells #[.string nm, .slice aa 0 ca, .int .i64 ty] 48)).alloc (.cells #[.string ⟨#[]⟩, .int .i64 0, .int .i64 0, .int .i64 0, .int .i64 0, .int .i64 0] 55)).alloc (.cells #[.string nm, .int .i64 0, .int .i64 0, .int .i64 0, .int .i64 0, .int .i64 ty] 55)).drew = .ok (.int .i64 0) (((w.alloc (.cells #[.string nm, .slice aa 0 ca, .int .i64 ty] 48)).alloc (.cells #[.string ⟨#[]⟩, .int .i64 0, .int .i64 0, .int .i64 0, .int .i64 0, .int .i64 0] 55)).alloc (.cells #[.string nm, .int .i64 0, .int .i64 0, .int .i64 0, .int .i64 0, .int .i64 ty] 55)).drew := copyF0 _ _ _ _
  go_enter Try.func22, Try.ntmps22
  go_wp2
  go_region
  all_goals
    clear hcp
    go_wp2
    refine bodyPost_ret (v := .agg #[.string nm, .int .i64 0, .int .i64 0, .int .i64 0, .int .i64 0, .int .i64 ty]) (by simp [results, Try.results22, go_sem]) rfl ?_
    refine ⟨rfl, ?_⟩
    exact ((((Below.refl _ w).alloc (Nat.le_refl _) _).alloc (by simp) _).alloc (by simp; omega) _).drew

set_option maxHeartbeats 1000000 in
theorem faceLineOf_1 (lo : Nat) (aa : Option Addr) (ca : Nat) (nm : ByteArray) (x0 ty : Int) (w : World) (ha : IsInts w lo w.heap.size aa [x0]) :
    Calls Try.prog 22 #[.agg #[.string nm, .slice aa 1 ca, .int .i64 ty]] w fun r w' => r = .returned (.agg #[.string nm, .int .i64 x0, .int .i64 0, .int .i64 0, .int .i64 0, .int .i64 ty]) ∧ Below w.heap.size w w' := by
  obtain ⟨b, off, rfl, hb, hc⟩ := row_cells ha
  have c0 : w.cell? ⟨b, off, none⟩ = some (.int .i64 x0) := hc 0 (by simp)
  clear hc ha
  have hsrc : ∀ j v, ([.int .i64 x0] : List Value)[j]? = some v → (((w.alloc (.cells #[.string nm, .slice (some ⟨b, off, none⟩) 1 ca, .int .i64 ty] 48)).alloc (.cells #[.string ⟨#[]⟩, .int .i64 0, .int .i64 0, .int .i64 0, .int .i64 0, .int .i64 0] 55)).alloc (.cells #[.string nm, .int .i64 0, .int .i64 0, .int .i64 0, .int .i64 0, .int .i64 ty] 55)).drew.cell? ⟨b, off + j, none⟩ = some v := by
    intro j v hv
    have hbl : Below w.heap.size w (((w.alloc (.cells #[.string nm, .slice (some ⟨b, off, none⟩) 1 ca, .int .i64 ty] 48)).alloc (.cells #[.string ⟨#[]⟩, .int .i64 0, .int .i64 0, .int .i64 0, .int .i64 0, .int .i64 0] 55)).alloc (.cells #[.string nm, .int .i64 0, .int .i64 0, .int .i64 0, .int .i64 0, .int .i64 ty] 55)).drew := ((((Below.refl _ w).alloc (Nat.le_refl _) _).alloc (by simp) _).alloc (by simp; omega) _).drew
    rw [hbl.cell (p := ⟨b, off + j, none⟩) hb]
    have hj : j < 1 := by have := (List.getElem?_eq_some_iff.1 hv).1; simpa using this
    obtain rfl : j = 0 := by omega
    · have e : Value.int .i64 x0 = v := by simpa using hv
      rw [← e]; exact c0
  have hdst : ∀ j, j < 6 → ((((w.alloc (.cells #[.string nm, .slice (some ⟨b, off, none⟩) 1 ca, .int .i64 ty] 48)).alloc (.cells #[.string ⟨#[]⟩, .int .i64 0, .int .i64 0, .int .i64 0, .int .i64 0, .int .i64 0] 55)).alloc (.cells #[.string nm, .int .i64 0, .int .i64 0, .int .i64 0, .int .i64 0, .int .i64 ty] 55)).drew.cell? ⟨w.heap.size + 1 + 1, j, none⟩).isSome = true := by
    intro j hj
    rw [(new_third w _ _ _ _ j).1]
    obtain rfl | rfl | rfl | rfl | rfl | rfl : j = 0 ∨ j = 1 ∨ j = 2 ∨ j = 3 ∨ j = 4 ∨ j = 5 := by omega
    all_goals rfl
  have hcp : (Builtin.copy_ #[44, 44] 3 #[.slice (some ⟨w.heap.size + 1 + 1, 1, none⟩) 4 4, .slice (some ⟨b, off, none⟩) 1 ca]).run Try.prog (((w.alloc (.cells #[.string nm, .slice (some ⟨b, off, none⟩) 1 ca, .int .i64 ty] 48)).alloc (.cells #[.string ⟨#[]⟩, .int .i64 0, .int .i64 0, .int .i64 0, .int .i64 0, .int .i64 0] 55)).alloc (.cells #[.string nm, .int .i64 0, .int .i64 0, .int .i64 0, .int .i64 0, .int .i64 ty] 55)).drew = .ok (.int .i64 1) ((((w.alloc (.cells #[.string nm, .slice (some ⟨b, off, none⟩) 1 ca, .int .i64 ty] 48)).alloc (.cells #[.string ⟨#[]⟩, .int .i64 0, .int .i64 0, .int .i64 0, .int .i64 0, .int .i64 0] 55)).alloc (.cells #[.string nm, .int .i64 0, .int .i64 0, .int .i64 0, .int .i64 0, .int .i64 ty] 55)).drew.setCell ⟨w.heap.size + 1 + 1, 1, none⟩ (.int .i64 x0)) := copyF ((((w.alloc (.cells #[.string nm, .slice (some ⟨b, off, none⟩) 1 ca, .int .i64 ty] 48)).alloc (.cells #[.string ⟨#[]⟩, .int .i64 0, .int .i64 0, .int .i64 0, .int .i64 0, .int .i64 0] 55)).alloc (.cells #[.string nm, .int .i64 0, .int .i64 0, .int .i64 0, .int .i64 0, .int .i64 ty] 55)).drew) (w.heap.size + 1 + 1) b off 1 ca [.int .i64 x0] rfl (by omega) hsrc hdst (fun j => (new_third w _ _ _ _ j).2) (by simp [Value.oneCell'])
  clear hdst
  clear hsrc c0
  go_enter Try.func22, Try.ntmps22
  go_wp2
  go_region
  all_goals
    clear hcp
    go_wp2
    refine bodyPost_ret (v := .agg #[.string nm, .int .i64 x0, .int .i64 0, .int .i64 0, .int .i64 0, .int .i64 ty]) (by simp [results, Try.results22, go_sem]) rfl ?_
    refine ⟨rfl, ?_⟩
    exact ((((Below.refl _ w).alloc (Nat.le_refl _) _).alloc (by simp) _).alloc (by simp; omega) _).drew

set_option maxHeartbeats 1000000 in
theorem faceLineOf_2 (lo : Nat) (aa : Option Addr) (ca : Nat) (nm : ByteArray) (x0 x1 ty : Int) (w : World) (ha : IsInts w lo w.heap.size aa [x0, x1]) :
    Calls Try.prog 22 #[.agg #[.string nm, .slice aa 2 ca, .int .i64 ty]] w fun r w' => r = .returned (.agg #[.string nm, .int .i64 x0, .int .i64 x1, .int .i64 0, .int .i64 0, .int .i64 ty]) ∧ Below w.heap.size w w' := by
  obtain ⟨b, off, rfl, hb, hc⟩ := row_cells ha
  have c0 : w.cell? ⟨b, off, none⟩ = some (.int .i64 x0) := hc 0 (by simp)
  have c1 : w.cell? ⟨b, off + 1, none⟩ = some (.int .i64 x1) := hc 1 (by simp)
  clear hc ha
  have hsrc : ∀ j v, ([.int .i64 x0, .int .i64 x1] : List Value)[j]? = some v → (((w.alloc (.cells #[.string nm, .slice (some ⟨b, off, none⟩) 2 ca, .int .i64 ty] 48)).alloc (.cells #[.string ⟨#[]⟩, .int .i64 0, .int .i64 0, .int .i64 0, .int .i64 0, .int .i64 0] 55)).alloc (.cells #[.string nm, .int .i64 0, .int .i64 0, .int .i64 0, .int .i64 0, .int .i64 ty] 55)).drew.cell? ⟨b, off + j, none⟩ = some v := by
    intro j v hv
    have hbl : Below w.heap.size w (((w.alloc (.cells #[.string nm, .slice (some ⟨b, off, none⟩) 2 ca, .int .i64 ty] 48)).alloc (.cells #[.string ⟨#[]⟩, .int .i64 0, .int .i64 0, .int .i64 0, .int .i64 0, .int .i64 0] 55)).alloc (.cells #[.string nm, .int .i64 0, .int .i64 0, .int .i64 0, .int .i64 0, .int .i64 ty] 55)).drew := ((((Below.refl _ w).alloc (Nat.le_refl _) _).alloc (by simp) _).alloc (by simp; omega) _).drew
    rw [hbl.cell (p := ⟨b, off + j, none⟩) hb]
    have hj : j < 2 := by have := (List.getElem?_eq_some_iff.1 hv).1; simpa using this
    obtain rfl | rfl : j = 0 ∨ j = 1 := by omega
    · have e : Value.int .i64 x0 = v := by simpa using hv
      rw [← e]; exact c0
    · have e : Value.int .i64 x1 = v := by simpa using hv
      rw [← e]; exact c1
  have hdst : ∀ j, j < 6 → ((((w.alloc (.cells #[.string nm, .slice (some ⟨b, off, none⟩) 2 ca, .int .i64 ty] 48)).alloc (.cells #[.string ⟨#[]⟩, .int .i64 0, .int .i64 0, .int .i64 0, .int .i64 0, .int .i64 0] 55)).alloc (.cells #[.string nm, .int .i64 0, .int .i64 0, .int .i64 0, .int .i64 0, .int .i64 ty] 55)).drew.cell? ⟨w.heap.size + 1 + 1, j, none⟩).isSome = true := by
    intro j hj
    rw [(new_third w _ _ _ _ j).1]
    obtain rfl | rfl | rfl | rfl | rfl | rfl : j = 0 ∨ j = 1 ∨ j = 2 ∨ j = 3 ∨ j = 4 ∨ j = 5 := by omega
    all_goals rfl
  have hcp : (Builtin.copy_ #[44, 44] 3 #[.slice (some ⟨w.heap.size + 1 + 1, 1, none⟩) 4 4, .slice (some ⟨b, off, none⟩) 2 ca]).run Try.prog (((w.alloc (.cells #[.string nm, .slice (some ⟨b, off, none⟩) 2 ca, .int .i64 ty] 48)).alloc (.cells #[.string ⟨#[]⟩, .int .i64 0, .int .i64 0, .int .i64 0, .int .i64 0, .int .i64 0] 55)).alloc (.cells #[.string nm, .int .i64 0, .int .i64 0, .int .i64 0, .int .i64 0, .int .i64 ty] 55)).drew = .ok (.int .i64 2) (((((w.alloc (.cells #[.string nm, .slice (some ⟨b, off, none⟩) 2 ca, .int .i64 ty] 48)).alloc (.cells #[.string ⟨#[]⟩, .int .i64 0, .int .i64 0, .int .i64 0, .int .i64 0, .int .i64 0] 55)).alloc (.cells #[.string nm, .int .i64 0, .int .i64 0, .int .i64 0, .int .i64 0, .int .i64 ty] 55)).drew.setCell ⟨w.heap.size + 1 + 1, 1, none⟩ (.int .i64 x0)).setCell ⟨w.heap.size + 1 + 1, 2, none⟩ (.int .i64 x1)) := copyF ((((w.alloc (.cells #[.string nm, .slice (some ⟨b, off, none⟩) 2 ca, .int .i64 ty] 48)).alloc (.cells #[.string ⟨#[]⟩, .int .i64 0, .int .i64 0, .int .i64 0, .int .i64 0, .int .i64 0] 55)).alloc (.cells #[.string nm, .int .i64 0, .int .i64 0, .int .i64 0, .int .i64 0, .int .i64 ty] 55)).drew) (w.heap.size + 1 + 1) b off 2 ca [.int .i64 x0, .int .i64 x1] rfl (by omega) hsrc hdst (fun j => (new_third w _ _ _ _ j).2) (by simp [Value.oneCell'])
  clear hdst
  clear hsrc c0 c1
  go_enter Try.func22, Try.ntmps22
  go_wp2
  go_region
  all_goals
    clear hcp
    go_wp2
    refine bodyPost_ret (v := .agg #[.string nm, .int .i64 x0, .int .i64 x1, .int .i64 0, .int .i64 0, .int .i64 ty]) (by simp [results, Try.results22, go_sem]) rfl ?_
    refine ⟨rfl, ?_⟩
    exact ((((Below.refl _ w).alloc (Nat.le_refl _) _).alloc (by simp) _).alloc (by simp; omega) _).drew

set_option maxHeartbeats 1000000 in
theorem faceLineOf_3 (lo : Nat) (aa : Option Addr) (ca : Nat) (nm : ByteArray) (x0 x1 x2 ty : Int) (w : World) (ha : IsInts w lo w.heap.size aa [x0, x1, x2]) :
    Calls Try.prog 22 #[.agg #[.string nm, .slice aa 3 ca, .int .i64 ty]] w fun r w' => r = .returned (.agg #[.string nm, .int .i64 x0, .int .i64 x1, .int .i64 x2, .int .i64 0, .int .i64 ty]) ∧ Below w.heap.size w w' := by
  obtain ⟨b, off, rfl, hb, hc⟩ := row_cells ha
  have c0 : w.cell? ⟨b, off, none⟩ = some (.int .i64 x0) := hc 0 (by simp)
  have c1 : w.cell? ⟨b, off + 1, none⟩ = some (.int .i64 x1) := hc 1 (by simp)
  have c2 : w.cell? ⟨b, off + 2, none⟩ = some (.int .i64 x2) := hc 2 (by simp)
  clear hc ha
  have hsrc : ∀ j v, ([.int .i64 x0, .int .i64 x1, .int .i64 x2] : List Value)[j]? = some v → (((w.alloc (.cells #[.string nm, .slice (some ⟨b, off, none⟩) 3 ca, .int .i64 ty] 48)).alloc (.cells #[.string ⟨#[]⟩, .int .i64 0, .int .i64 0, .int .i64 0, .int .i64 0, .int .i64 0] 55)).alloc (.cells #[.string nm, .int .i64 0, .int .i64 0, .int .i64 0, .int .i64 0, .int .i64 ty] 55)).drew.cell? ⟨b, off + j, none⟩ = some v := by
    intro j v hv
    have hbl : Below w.heap.size w (((w.alloc (.cells #[.string nm, .slice (some ⟨b, off, none⟩) 3 ca, .int .i64 ty] 48)).alloc (.cells #[.string ⟨#[]⟩, .int .i64 0, .int .i64 0, .int .i64 0, .int .i64 0, .int .i64 0] 55)).alloc (.cells #[.string nm, .int .i64 0, .int .i64 0, .int .i64 0, .int .i64 0, .int .i64 ty] 55)).drew := ((((Below.refl _ w).alloc (Nat.le_refl _) _).alloc (by simp) _).alloc (by simp; omega) _).drew
    rw [hbl.cell (p := ⟨b, off + j, none⟩) hb]
    have hj : j < 3 := by have := (List.getElem?_eq_some_iff.1 hv).1; simpa using this
    obtain rfl | rfl | rfl : j = 0 ∨ j = 1 ∨ j = 2 := by omega
    · have e : Value.int .i64 x0 = v := by simpa using hv
      rw [← e]; exact c0
    · have e : Value.int .i64 x1 = v := by simpa using hv
      rw [← e]; exact c1
    · have e : Value.int .i64 x2 = v := by simpa using hv
      rw [← e]; exact c2
  have hdst : ∀ j, j < 6 → ((((w.alloc (.cells #[.string nm, .slice (some ⟨b, off, none⟩) 3 ca, .int .i64 ty] 48)).alloc (.cells #[.string ⟨#[]⟩, .int .i64 0, .int .i64 0, .int .i64 0, .int .i64 0, .int .i64 0] 55)).alloc (.cells #[.string nm, .int .i64 0, .int .i64 0, .int .i64 0, .int .i64 0, .int .i64 ty] 55)).drew.cell? ⟨w.heap.size + 1 + 1, j, none⟩).isSome = true := by
    intro j hj
    rw [(new_third w _ _ _ _ j).1]
    obtain rfl | rfl | rfl | rfl | rfl | rfl : j = 0 ∨ j = 1 ∨ j = 2 ∨ j = 3 ∨ j = 4 ∨ j = 5 := by omega
    all_goals rfl
  have hcp : (Builtin.copy_ #[44, 44] 3 #[.slice (some ⟨w.heap.size + 1 + 1, 1, none⟩) 4 4, .slice (some ⟨b, off, none⟩) 3 ca]).run Try.prog (((w.alloc (.cells #[.string nm, .slice (some ⟨b, off, none⟩) 3 ca, .int .i64 ty] 48)).alloc (.cells #[.string ⟨#[]⟩, .int .i64 0, .int .i64 0, .int .i64 0, .int .i64 0, .int .i64 0] 55)).alloc (.cells #[.string nm, .int .i64 0, .int .i64 0, .int .i64 0, .int .i64 0, .int .i64 ty] 55)).drew = .ok (.int .i64 3) ((((((w.alloc (.cells #[.string nm, .slice (some ⟨b, off, none⟩) 3 ca, .int .i64 ty] 48)).alloc (.cells #[.string ⟨#[]⟩, .int .i64 0, .int .i64 0, .int .i64 0, .int .i64 0, .int .i64 0] 55)).alloc (.cells #[.string nm, .int .i64 0, .int .i64 0, .int .i64 0, .int .i64 0, .int .i64 ty] 55)).drew.setCell ⟨w.heap.size + 1 + 1, 1, none⟩ (.int .i64 x0)).setCell ⟨w.heap.size + 1 + 1, 2, none⟩ (.int .i64 x1)).setCell ⟨w.heap.size + 1 + 1, 3, none⟩ (.int .i64 x2)) := copyF ((((w.alloc (.cells #[.string nm, .slice (some ⟨b, off, none⟩) 3 ca, .int .i64 ty] 48)).alloc (.cells #[.string ⟨#[]⟩, .int .i64 0, .int .i64 0, .int .i64 0, .int .i64 0, .int .i64 0] 55)).alloc (.cells #[.string nm, .int .i64 0, .int .i64 0, .int .i64 0, .int .i64 0, .int .i64 ty] 55)).drew) (w.heap.size + 1 + 1) b off 3 ca [.int .i64 x0, .int .i64 x1, .int .i64 x2] rfl (by omega) hsrc hdst (fun j => (new_third w _ _ _ _ j).2) (by simp [Value.oneCell'])
  clear hdst
  clear hsrc c0 c1 c2
  go_enter Try.func22, Try.ntmps22
  go_wp2
  go_region
  all_goals
    clear hcp
    go_wp2
    refine bodyPost_ret (v := .agg #[.string nm, .int .i64 x0, .int .i64 x1, .int .i64 x2, .int .i64 0, .int .i64 ty]) (by simp [results, Try.results22, go_sem]) rfl ?_
    refine ⟨rfl, ?_⟩
    exact ((((Below.refl _ w).alloc (Nat.le_refl _) _).alloc (by simp) _).alloc (by simp; omega) _).drew

set_option maxHeartbeats 1000000 in
theorem faceLineOf_4 (lo : Nat) (aa : Option Addr) (ca : Nat) (nm : ByteArray) (x0 x1 x2 x3 ty : Int) (w : World) (ha : IsInts w lo w.heap.size aa [x0, x1, x2, x3]) :
    Calls Try.prog 22 #[.agg #[.string nm, .slice aa 4 ca, .int .i64 ty]] w fun r w' => r = .returned (.agg #[.string nm, .int .i64 x0, .int .i64 x1, .int .i64 x2, .int .i64 x3, .int .i64 ty]) ∧ Below w.heap.size w w' := by
  obtain ⟨b, off, rfl, hb, hc⟩ := row_cells ha
  have c0 : w.cell? ⟨b, off, none⟩ = some (.int .i64 x0) := hc 0 (by simp)
  have c1 : w.cell? ⟨b, off + 1, none⟩ = some (.int .i64 x1) := hc 1 (by simp)
  have c2 : w.cell? ⟨b, off + 2, none⟩ = some (.int .i64 x2) := hc 2 (by simp)
  have c3 : w.cell? ⟨b, off + 3, none⟩ = some (.int .i64 x3) := hc 3 (by simp)
  clear hc ha
  have hsrc : ∀ j v, ([.int .i64 x0, .int .i64 x1, .int .i64 x2, .int .i64 x3] : List Value)[j]? = some v → (((w.alloc (.cells #[.string nm, .slice (some ⟨b, off, none⟩) 4 ca, .int .i64 ty] 48)).alloc (.cells #[.string ⟨#[]⟩, .int .i64 0, .int .i64 0, .int .i64 0, .int .i64 0, .int .i64 0] 55)).alloc (.cells #[.string nm, .int .i64 0, .int .i64 0, .int .i64 0, .int .i64 0, .int .i64 ty] 55)).drew.cell? ⟨b, off + j, none⟩ = some v := by
    intro j v hv
    have hbl : Below w.heap.size w (((w.alloc (.cells #[.string nm, .slice (some ⟨b, off, none⟩) 4 ca, .int .i64 ty] 48)).alloc (.cells #[.string ⟨#[]⟩, .int .i64 0, .int .i64 0, .int .i64 0, .int .i64 0, .int .i64 0] 55)).alloc (.cells #[.string nm, .int .i64 0, .int .i64 0, .int .i64 0, .int .i64 0, .int .i64 ty] 55)).drew := ((((Below.refl _ w).alloc (Nat.le_refl _) _).alloc (by simp) _).alloc (by simp; omega) _).drew
    rw [hbl.cell (p := ⟨b, off + j, none⟩) hb]
    have hj : j < 4 := by have := (List.getElem?_eq_some_iff.1 hv).1; simpa using this
    obtain rfl | rfl | rfl | rfl : j = 0 ∨ j = 1 ∨ j = 2 ∨ j = 3 := by omega
    · have e : Value.int .i64 x0 = v := by simpa using hv
      rw [← e]; exact c0
    · have e : Value.int .i64 x1 = v := by simpa using hv
      rw [← e]; exact c1
    · have e : Value.int .i64 x2 = v := by simpa using hv
      rw [← e]; exact c2
    · have e : Value.int .i64 x3 = v := by simpa using hv
      rw [← e]; exact c3
  have hdst : ∀ j, j < 6 → ((((w.alloc (.cells #[.string nm, .slice (some ⟨b, off, none⟩) 4 ca, .int .i64 ty] 48)).alloc (.cells #[.string ⟨#[]⟩, .int .i64 0, .int .i64 0, .int .i64 0, .int .i64 0, .int .i64 0] 55)).alloc (.cells #[.string nm, .int .i64 0, .int .i64 0, .int .i64 0, .int .i64 0, .int .i64 ty] 55)).drew.cell? ⟨w.heap.size + 1 + 1, j, none⟩).isSome = true := by
    intro j hj
    rw [(new_third w _ _ _ _ j).1]
    obtain rfl | rfl | rfl | rfl | rfl | rfl : j = 0 ∨ j = 1 ∨ j = 2 ∨ j = 3 ∨ j = 4 ∨ j = 5 := by omega
    all_goals rfl
  have hcp : (Builtin.copy_ #[44, 44] 3 #[.slice (some ⟨w.heap.size + 1 + 1, 1, none⟩) 4 4, .slice (some ⟨b, off, none⟩) 4 ca]).run Try.prog (((w.alloc (.cells #[.string nm, .slice (some ⟨b, off, none⟩) 4 ca, .int .i64 ty] 48)).alloc (.cells #[.string ⟨#[]⟩, .int .i64 0, .int .i64 0, .int .i64 0, .int .i64 0, .int .i64 0] 55)).alloc (.cells #[.string nm, .int .i64 0, .int .i64 0, .int .i64 0, .int .i64 0, .int .i64 ty] 55)).drew = .ok (.int .i64 4) (((((((w.alloc (.cells #[.string nm, .slice (some ⟨b, off, none⟩) 4 ca, .int .i64 ty] 48)).alloc (.cells #[.string ⟨#[]⟩, .int .i64 0, .int .i64 0, .int .i64 0, .int .i64 0, .int .i64 0] 55)).alloc (.cells #[.string nm, .int .i64 0, .int .i64 0, .int .i64 0, .int .i64 0, .int .i64 ty] 55)).drew.setCell ⟨w.heap.size + 1 + 1, 1, none⟩ (.int .i64 x0)).setCell ⟨w.heap.size + 1 + 1, 2, none⟩ (.int .i64 x1)).setCell ⟨w.heap.size + 1 + 1, 3, none⟩ (.int .i64 x2)).setCell ⟨w.heap.size + 1 + 1, 4, none⟩ (.int .i64 x3)) := copyF ((((w.alloc (.cells #[.string nm, .slice (some ⟨b, off, none⟩) 4 ca, .int .i64 ty] 48)).alloc (.cells #[.string ⟨#[]⟩, .int .i64 0, .int .i64 0, .int .i64 0, .int .i64 0, .int .i64 0] 55)).alloc (.cells #[.string nm, .int .i64 0, .int .i64 0, .int .i64 0, .int .i64 0, .int .i64 ty] 55)).drew) (w.heap.size + 1 + 1) b off 4 ca [.int .i64 x0, .int .i64 x1, .int .i64 x2, .int .i64 x3] rfl (by omega) hsrc hdst (fun j => (new_third w _ _ _ _ j).2) (by simp [Value.oneCell'])
  clear hdst
  clear hsrc c0 c1 c2 c3
  go_enter Try.func22, Try.ntmps22
  go_wp2
  go_region
  all_goals
    clear hcp
    go_wp2
    refine bodyPost_ret (v := .agg #[.string nm, .int .i64 x0, .int .i64 x1, .int .i64 x2, .int .i64 x3, .int .i64 ty]) (by simp [results, Try.results22, go_sem]) rfl ?_
    refine ⟨rfl, ?_⟩
    exact ((((Below.refl _ w).alloc (Nat.le_refl _) _).alloc (by simp) _).alloc (by simp; omega) _).drew

theorem faceLineOf_any (lo : Nat) (v : Value) (s : TS) (w : World) (hS : IsSig w lo w.heap.size v s) (h4 : s.args.length ≤ 4) :
    Calls Try.prog 22 #[v] w fun r w' => r = .returned (lineV s) ∧ Below w.heap.size w w' := by
  obtain ⟨nm, args, ty⟩ := s
  obtain ⟨aa, ca, rfl, _, ha⟩ := hS
  dsimp only at ha h4 ⊢
  rcases args with _ | ⟨x0, _ | ⟨x1, _ | ⟨x2, _ | ⟨x3, _ | ⟨x4, r⟩⟩⟩⟩⟩
  · exact faceLineOf_0 lo aa ca nm ty w ha
  · exact faceLineOf_1 lo aa ca nm x0 ty w ha
  · exact faceLineOf_2 lo aa ca nm x0 x1 ty w ha
  · exact faceLineOf_3 lo aa ca nm x0 x1 x2 ty w ha
  · exact faceLineOf_4 lo aa ca nm x0 x1 x2 x3 ty w ha
  · simp at h4
end Go.Proofs.Ytifcfjjlgehopaa
