/- The walks of impl's makers of primitives, and of the map of them. No conditions. -/
import Derived.Test.YtjnahhalgckggaaAo
import Derived.Test.YtjnahhalgckggaaHd
import Derived.Laws.EntriesVeiled
namespace Go.Proofs.Ytjnahhalgckggaa
open Go.RowKit Go.PlainAid

def MkPost (c f : Nat) (w : World) (e : Ending) (w' : World) : Prop := ∃ B : Nat, e = .returned (.func (.func c) #[] #[.pointer (some ⟨B, 0, none⟩)]) ∧ w.heap.size ≤ B ∧ B < w'.heap.size ∧ w'.cell? ⟨B, 0, none⟩ = some (FV f) ∧ Below w.heap.size w w'
set_option maxHeartbeats 1000000 in
theorem mk_number (f : Nat) (w : World) : Calls Try.prog 39 #[FV f] w fun e w' => MkPost 63 f w e w' := by
  go_enter Try.func39, Try.ntmps39
  go_wp2
  go_ret
  exact ⟨_, rfl, Nat.le_refl _, by simp, alloc_cell _ _ _ _, below_new _ _⟩
set_option maxHeartbeats 1000000 in
theorem mk_truth (f : Nat) (w : World) : Calls Try.prog 46 #[FV f] w fun e w' => MkPost 65 f w e w' := by
  go_enter Try.func46, Try.ntmps46
  go_wp2
  go_ret
  exact ⟨_, rfl, Nat.le_refl _, by simp, alloc_cell _ _ _ _, below_new _ _⟩
set_option maxHeartbeats 1000000 in
theorem mk_division (f : Nat) (w : World) : Calls Try.prog 43 #[FV f] w fun e w' => ∃ B B2 : Nat, e = .returned (.func (.func 64) #[] #[.pointer (some ⟨B2, 0, none⟩)]) ∧ (w.heap.size ≤ B ∧ B < w'.heap.size ∧ w'.cell? ⟨B, 0, none⟩ = some (FV f)) ∧ (w.heap.size ≤ B2 ∧ B2 < w'.heap.size ∧ w'.cell? ⟨B2, 0, none⟩ = some (.func (.func 63) #[] #[.pointer (some ⟨B, 0, none⟩)])) ∧ Below w.heap.size w w' := by
  go_enter Try.func43, Try.ntmps43
  go_wp2_with fail
  refine (mk_number f w).mono ?_
  rintro r w1 ⟨B, rfl, h1, h2, h3, hb⟩
  have HH := hide (And.intro h1 (And.intro h2 h3))
  have HB := hide hb
  clear h1 h2 h3 hb
  go_wp2
  go_ret
  obtain ⟨h1, h2, h3⟩ := unhide HH
  refine ⟨B, w1.heap.size, rfl, ⟨h1, by simp; omega, ((below_new w1 _).cell (p := ⟨B, 0, none⟩) h2).trans h3⟩, ⟨(unhide HB).size, by simp, alloc_cell _ _ _ _⟩, (unhide HB).alloc (unhide HB).size _⟩
theorem St.put2 {w W : World} {M : Nat} {L : List (List UInt8 × Value)} {F : List (Nat × Value)} (h : St w M L F W) (hn : L.length < 100) (k : List UInt8) (hk : k.length ≤ 100) (v : Value) : ∃ W', (Instr.mapUpdate 54 (.map (some M)) (.string ⟨k.toArray⟩) v).run Try.prog W = .ok () W' ∧ St w M ((k, v) :: L) F W' := by
  have := h.put hn ⟨k.toArray⟩ (by unfold maxLen; simp [ByteArray.size]; omega) v
  rwa [ByteArray.toList_eq] at this
theorem rfl_div4 (x y : MV) : primR 4 [x, y] = if y.num = 0 then (⟨0, 0, []⟩, 1) else (⟨1, wrap64 (x.num.tdiv y.num), []⟩, 0) := by
  by_cases h : y.num = 0 <;> simp [primR, calcR, h, List.getD]
theorem rfl_div5 (x y : MV) : primR 5 [x, y] = if y.num = 0 then (⟨0, 0, []⟩, 1) else (⟨1, x.num.tmod y.num, []⟩, 0) := by
  by_cases h : y.num = 0 <;> simp [primR, calcR, h, List.getD]
/-- A map that holds all primitives. -/
def Prims (w : World) (b : Nat) : Prop := ∃ L, PM w b L ∧ ∀ l, (primN l = 0 → L.lookup l = none) ∧ (primN l ≠ 0 → ∃ v, L.lookup l = some v ∧ Acts w v (primN l))
theorem prims_of (w : World) (v1 v2 v3 v4 v5 v6 v7 v8 v9 v10 v11 v12 v13 v14 v15 v16 : Value) (h1 : Acts w v1 1) (h2 : Acts w v2 2) (h3 : Acts w v3 3) (h4 : Acts w v4 4) (h5 : Acts w v5 5) (h6 : Acts w v6 6) (h7 : Acts w v7 7) (h8 : Acts w v8 8) (h9 : Acts w v9 9) (h10 : Acts w v10 10) (h11 : Acts w v11 11) (h12 : Acts w v12 12) (h13 : Acts w v13 13) (h14 : Acts w v14 14) (h15 : Acts w v15 15) (h16 : Acts w v16 16) (l : List UInt8) : (primN l = 0 → ([([106, 111, 105, 110], v13), ([112, 117, 116], v12), ([97, 116], v10), ([112, 114, 105, 110, 116], v14), ([108, 101, 110], v11), ([110, 111, 116], v9), ([111, 114], v16), ([97, 110, 100], v15), ([61], v8), ([60, 61], v7), ([60], v6), ([37], v5), ([47], v4), ([42], v3), ([45], v2), ([43], v1)] : List (List UInt8 × Value)).lookup l = none) ∧ (primN l ≠ 0 → ∃ v, ([([106, 111, 105, 110], v13), ([112, 117, 116], v12), ([97, 116], v10), ([112, 114, 105, 110, 116], v14), ([108, 101, 110], v11), ([110, 111, 116], v9), ([111, 114], v16), ([97, 110, 100], v15), ([61], v8), ([60, 61], v7), ([60], v6), ([37], v5), ([47], v4), ([42], v3), ([45], v2), ([43], v1)] : List (List UInt8 × Value)).lookup l = some v ∧ Acts w v (primN l)) := by
  by_cases h : l ∈ prims
  · unfold prims at h
    simp only [List.mem_cons, List.not_mem_nil, or_false] at h
    rcases h with rfl | rfl | rfl | rfl | rfl | rfl | rfl | rfl | rfl | rfl | rfl | rfl | rfl | rfl | rfl | rfl
    · have hn : primN [43] = 1 := by decide
      rw [hn]
      exact ⟨fun h => absurd h (by decide), fun _ => ⟨v1, by simp [List.lookup], h1⟩⟩
    · have hn : primN [45] = 2 := by decide
      rw [hn]
      exact ⟨fun h => absurd h (by decide), fun _ => ⟨v2, by simp [List.lookup], h2⟩⟩
    · have hn : primN [42] = 3 := by decide
      rw [hn]
      exact ⟨fun h => absurd h (by decide), fun _ => ⟨v3, by simp [List.lookup], h3⟩⟩
    · have hn : primN [47] = 4 := by decide
      rw [hn]
      exact ⟨fun h => absurd h (by decide), fun _ => ⟨v4, by simp [List.lookup], h4⟩⟩
    · have hn : primN [37] = 5 := by decide
      rw [hn]
      exact ⟨fun h => absurd h (by decide), fun _ => ⟨v5, by simp [List.lookup], h5⟩⟩
    · have hn : primN [60] = 6 := by decide
      rw [hn]
      exact ⟨fun h => absurd h (by decide), fun _ => ⟨v6, by simp [List.lookup], h6⟩⟩
    · have hn : primN [60, 61] = 7 := by decide
      rw [hn]
      exact ⟨fun h => absurd h (by decide), fun _ => ⟨v7, by simp [List.lookup], h7⟩⟩
    · have hn : primN [61] = 8 := by decide
      rw [hn]
      exact ⟨fun h => absurd h (by decide), fun _ => ⟨v8, by simp [List.lookup], h8⟩⟩
    · have hn : primN [110, 111, 116] = 9 := by decide
      rw [hn]
      exact ⟨fun h => absurd h (by decide), fun _ => ⟨v9, by simp [List.lookup], h9⟩⟩
    · have hn : primN [97, 116] = 10 := by decide
      rw [hn]
      exact ⟨fun h => absurd h (by decide), fun _ => ⟨v10, by simp [List.lookup], h10⟩⟩
    · have hn : primN [108, 101, 110] = 11 := by decide
      rw [hn]
      exact ⟨fun h => absurd h (by decide), fun _ => ⟨v11, by simp [List.lookup], h11⟩⟩
    · have hn : primN [112, 117, 116] = 12 := by decide
      rw [hn]
      exact ⟨fun h => absurd h (by decide), fun _ => ⟨v12, by simp [List.lookup], h12⟩⟩
    · have hn : primN [106, 111, 105, 110] = 13 := by decide
      rw [hn]
      exact ⟨fun h => absurd h (by decide), fun _ => ⟨v13, by simp [List.lookup], h13⟩⟩
    · have hn : primN [112, 114, 105, 110, 116] = 14 := by decide
      rw [hn]
      exact ⟨fun h => absurd h (by decide), fun _ => ⟨v14, by simp [List.lookup], h14⟩⟩
    · have hn : primN [97, 110, 100] = 15 := by decide
      rw [hn]
      exact ⟨fun h => absurd h (by decide), fun _ => ⟨v15, by simp [List.lookup], h15⟩⟩
    · have hn : primN [111, 114] = 16 := by decide
      rw [hn]
      exact ⟨fun h => absurd h (by decide), fun _ => ⟨v16, by simp [List.lookup], h16⟩⟩
  · refine ⟨fun _ => ?_, fun hn => absurd (mem_prims _ h) hn⟩
    unfold prims at h
    simp only [List.mem_cons, List.not_mem_nil, or_false, not_or] at h
    obtain ⟨g0, g1, g2, g3, g4, g5, g6, g7, g8, g9, g10, g11, g12, g13, g14, g15⟩ := h
    simp [List.lookup, beq_eq_false_iff_ne.2 g0, beq_eq_false_iff_ne.2 g1, beq_eq_false_iff_ne.2 g2, beq_eq_false_iff_ne.2 g3, beq_eq_false_iff_ne.2 g4, beq_eq_false_iff_ne.2 g5, beq_eq_false_iff_ne.2 g6, beq_eq_false_iff_ne.2 g7, beq_eq_false_iff_ne.2 g8, beq_eq_false_iff_ne.2 g9, beq_eq_false_iff_ne.2 g10, beq_eq_false_iff_ne.2 g11, beq_eq_false_iff_ne.2 g12, beq_eq_false_iff_ne.2 g13, beq_eq_false_iff_ne.2 g14, beq_eq_false_iff_ne.2 g15]

set_option maxRecDepth 100000 in
set_option maxHeartbeats 16000000 in
theorem made_any (w : World) : Calls Try.prog 26 #[] w fun e w' => ∃ b : Nat, e = .returned (.map (some b)) ∧ Prims w' b ∧ Below w.heap.size w w' := by
  have r0 : (Instr.makeMap 54 none).run Try.prog w = .ok (.map (some w.heap.size)) (w.alloc (.map #[] 0)) := run_makeMap _ _
  have S0 : Hid (St w w.heap.size [] [] (w.alloc (.map #[] 0))) := hide ⟨(Below.refl _ _).alloc (Nat.le_refl _) _, Nat.le_refl _, PM.made w, fun p hp => absurd hp (by simp)⟩
  go_enter Try.func26, Try.ntmps26
  go_wp2_with fail
  clear r0
  refine (mk_number 40 _).mono ?_
  rintro r u1 ⟨B1, rfl, a1, a2, a3, hb⟩
  obtain ⟨x1, r1, s1⟩ := ((unhide S0).call hb [(B1, FV 40)] (fun p hp => by
    simp only [List.mem_cons, List.not_mem_nil, or_false] at hp
    subst hp
    exact ⟨a1, a2, a3⟩)).put2 (by simp) [43] (by decide) (.func (.func 63) #[] #[.pointer (some ⟨B1, 0, none⟩)])
  have S1 := hide s1
  clear a1 a2 a3 hb s1 S0
  go_wp2_with fail
  clear r1
  refine (mk_number 41 _).mono ?_
  rintro r u2 ⟨B2, rfl, a1, a2, a3, hb⟩
  obtain ⟨x2, r2, s2⟩ := ((unhide S1).call hb [(B2, FV 41)] (fun p hp => by
    simp only [List.mem_cons, List.not_mem_nil, or_false] at hp
    subst hp
    exact ⟨a1, a2, a3⟩)).put2 (by simp) [45] (by decide) (.func (.func 63) #[] #[.pointer (some ⟨B2, 0, none⟩)])
  have S2 := hide s2
  clear a1 a2 a3 hb s2 S1
  go_wp2_with fail
  clear r2
  refine (mk_number 42 _).mono ?_
  rintro r u3 ⟨B3, rfl, a1, a2, a3, hb⟩
  obtain ⟨x3, r3, s3⟩ := ((unhide S2).call hb [(B3, FV 42)] (fun p hp => by
    simp only [List.mem_cons, List.not_mem_nil, or_false] at hp
    subst hp
    exact ⟨a1, a2, a3⟩)).put2 (by simp) [42] (by decide) (.func (.func 63) #[] #[.pointer (some ⟨B3, 0, none⟩)])
  have S3 := hide s3
  clear a1 a2 a3 hb s3 S2
  go_wp2_with fail
  clear r3
  refine (mk_division 44 _).mono ?_
  rintro r u4 ⟨B4, E4, rfl, ⟨a1, a2, a3⟩, ⟨a4, a5, a6⟩, hb⟩
  obtain ⟨x4, r4, s4⟩ := ((unhide S3).call hb [(B4, FV 44), (E4, .func (.func 63) #[] #[.pointer (some ⟨B4, 0, none⟩)])] (fun p hp => by
    simp only [List.mem_cons, List.not_mem_nil, or_false] at hp
    rcases hp with rfl | rfl
    · exact ⟨a1, a2, a3⟩
    · exact ⟨a4, a5, a6⟩)).put2 (by simp) [47] (by decide) (.func (.func 64) #[] #[.pointer (some ⟨E4, 0, none⟩)])
  have S4 := hide s4
  clear a1 a2 a3 a4 a5 a6 hb s4 S3
  go_wp2_with fail
  clear r4
  refine (mk_division 45 _).mono ?_
  rintro r u5 ⟨B5, E5, rfl, ⟨a1, a2, a3⟩, ⟨a4, a5, a6⟩, hb⟩
  obtain ⟨x5, r5, s5⟩ := ((unhide S4).call hb [(B5, FV 45), (E5, .func (.func 63) #[] #[.pointer (some ⟨B5, 0, none⟩)])] (fun p hp => by
    simp only [List.mem_cons, List.not_mem_nil, or_false] at hp
    rcases hp with rfl | rfl
    · exact ⟨a1, a2, a3⟩
    · exact ⟨a4, a5, a6⟩)).put2 (by simp) [37] (by decide) (.func (.func 64) #[] #[.pointer (some ⟨E5, 0, none⟩)])
  have S5 := hide s5
  clear a1 a2 a3 a4 a5 a6 hb s5 S4
  go_wp2_with fail
  clear r5
  refine (mk_truth 47 _).mono ?_
  rintro r u6 ⟨B6, rfl, a1, a2, a3, hb⟩
  obtain ⟨x6, r6, s6⟩ := ((unhide S5).call hb [(B6, FV 47)] (fun p hp => by
    simp only [List.mem_cons, List.not_mem_nil, or_false] at hp
    subst hp
    exact ⟨a1, a2, a3⟩)).put2 (by simp) [60] (by decide) (.func (.func 65) #[] #[.pointer (some ⟨B6, 0, none⟩)])
  have S6 := hide s6
  clear a1 a2 a3 hb s6 S5
  go_wp2_with fail
  clear r6
  refine (mk_truth 48 _).mono ?_
  rintro r u7 ⟨B7, rfl, a1, a2, a3, hb⟩
  obtain ⟨x7, r7, s7⟩ := ((unhide S6).call hb [(B7, FV 48)] (fun p hp => by
    simp only [List.mem_cons, List.not_mem_nil, or_false] at hp
    subst hp
    exact ⟨a1, a2, a3⟩)).put2 (by simp) [60, 61] (by decide) (.func (.func 65) #[] #[.pointer (some ⟨B7, 0, none⟩)])
  have S7 := hide s7
  clear a1 a2 a3 hb s7 S6
  go_wp2_with fail
  clear r7
  refine (mk_truth 49 _).mono ?_
  rintro r u8 ⟨B8, rfl, a1, a2, a3, hb⟩
  obtain ⟨x8, r8, s8⟩ := ((unhide S7).call hb [(B8, FV 49)] (fun p hp => by
    simp only [List.mem_cons, List.not_mem_nil, or_false] at hp
    subst hp
    exact ⟨a1, a2, a3⟩)).put2 (by simp) [61] (by decide) (.func (.func 65) #[] #[.pointer (some ⟨B8, 0, none⟩)])
  have S8 := hide s8
  clear a1 a2 a3 hb s8 S7
  go_wp2_with fail
  clear r8
  refine (mk_truth 50 _).mono ?_
  rintro r u9 ⟨B9, rfl, a1, a2, a3, hb⟩
  obtain ⟨x9, r9, s9⟩ := ((unhide S8).call hb [(B9, FV 50)] (fun p hp => by
    simp only [List.mem_cons, List.not_mem_nil, or_false] at hp
    subst hp
    exact ⟨a1, a2, a3⟩)).put2 (by simp) [97, 110, 100] (by decide) (.func (.func 65) #[] #[.pointer (some ⟨B9, 0, none⟩)])
  have S9 := hide s9
  clear a1 a2 a3 hb s9 S8
  go_wp2_with fail
  clear r9
  refine (mk_truth 51 _).mono ?_
  rintro r u10 ⟨B10, rfl, a1, a2, a3, hb⟩
  obtain ⟨x10, r10, s10⟩ := ((unhide S9).call hb [(B10, FV 51)] (fun p hp => by
    simp only [List.mem_cons, List.not_mem_nil, or_false] at hp
    subst hp
    exact ⟨a1, a2, a3⟩)).put2 (by simp) [111, 114] (by decide) (.func (.func 65) #[] #[.pointer (some ⟨B10, 0, none⟩)])
  have S10 := hide s10
  clear a1 a2 a3 hb s10 S9
  obtain ⟨x11, r11, s11⟩ := (unhide S10).put2 (by simp) [110, 111, 116] (by decide) (FV 52)
  have S11 := hide s11
  clear s11 S10
  obtain ⟨x12, r12, s12⟩ := (unhide S11).put2 (by simp) [108, 101, 110] (by decide) (FV 54)
  have S12 := hide s12
  clear s12 S11
  obtain ⟨x13, r13, s13⟩ := (unhide S12).put2 (by simp) [112, 114, 105, 110, 116] (by decide) (FV 56)
  have S13 := hide s13
  clear s13 S12
  obtain ⟨x14, r14, s14⟩ := (unhide S13).put2 (by simp) [97, 116] (by decide) (FV 57)
  have S14 := hide s14
  clear s14 S13
  obtain ⟨x15, r15, s15⟩ := (unhide S14).put2 (by simp) [112, 117, 116] (by decide) (FV 58)
  have S15 := hide s15
  clear s15 S14
  obtain ⟨x16, r16, s16⟩ := (unhide S15).put2 (by simp) [106, 111, 105, 110] (by decide) (FV 59)
  have S16 := hide s16
  clear s16 S15
  go_wp2
  go_ret
  have S := unhide S16
  refine ⟨w.heap.size, rfl, ⟨_, S.pm, ?_⟩, S.bel⟩
  have C := S.cs
  have k1 := C (B1, FV 40) (by simp)
  have k2 := C (B2, FV 41) (by simp)
  have k3 := C (B3, FV 42) (by simp)
  have k4 := C (B4, FV 44) (by simp)
  have e4 := C (E4, .func (.func 63) #[] #[.pointer (some ⟨B4, 0, none⟩)]) (by simp)
  have k5 := C (B5, FV 45) (by simp)
  have e5 := C (E5, .func (.func 63) #[] #[.pointer (some ⟨B5, 0, none⟩)]) (by simp)
  have k6 := C (B6, FV 47) (by simp)
  have k7 := C (B7, FV 48) (by simp)
  have k8 := C (B8, FV 49) (by simp)
  have k9 := C (B9, FV 50) (by simp)
  have k10 := C (B10, FV 51) (by simp)
  exact fun l => prims_of _ _ _ _ _ _ _ _ _ _ _ _ _ _ _ _ _ (acts_number 40 1 _ (fun x y W => op1_any x y W) (fun _ _ _ => by kernel_rfl) (fun _ _ => rfl) rfl _ B1 k1.2.1 k1.2.2) (acts_number 41 2 _ (fun x y W => op2_any x y W) (fun _ _ _ => by kernel_rfl) (fun _ _ => rfl) rfl _ B2 k2.2.1 k2.2.2) (acts_number 42 3 _ (fun x y W => op3_any x y W) (fun _ _ _ => by kernel_rfl) (fun _ _ => rfl) rfl _ B3 k3.2.1 k3.2.2) (acts_division 44 4 _ (fun x y W h => op4_any x y W h) (fun _ _ _ => by kernel_rfl) (fun x y => rfl_div4 x y) rfl _ B4 E4 k4.2.1 k4.2.2 e4.2.1 e4.2.2) (acts_division 45 5 _ (fun x y W h => op5_any x y W h) (fun _ _ _ => by kernel_rfl) (fun x y => rfl_div5 x y) rfl _ B5 E5 k5.2.1 k5.2.2 e5.2.1 e5.2.2) (acts_truth 47 6 _ (fun x y W => op6_any x y W) (fun _ _ _ => by kernel_rfl) (fun _ _ => rfl) rfl _ B6 k6.2.1 k6.2.2) (acts_truth 48 7 _ (fun x y W => op7_any x y W) (fun _ _ _ => by kernel_rfl) (fun _ _ => rfl) rfl _ B7 k7.2.1 k7.2.2) (acts_truth 49 8 _ (fun x y W => op8_any x y W) (fun _ _ _ => by kernel_rfl) (fun _ _ => rfl) rfl _ B8 k8.2.1 k8.2.2) (acts_9 _) (acts_10 _) (acts_11 _) (acts_12 _) (acts_13 _) (acts_14 _) (acts_truth 50 15 _ (fun x y W => op9_any x y W) (fun _ _ _ => by kernel_rfl) (fun _ _ => rfl) rfl _ B9 k9.2.1 k9.2.2) (acts_truth 51 16 _ (fun x y W => op10_any x y W) (fun _ _ _ => by kernel_rfl) (fun _ _ => rfl) rfl _ B10 k10.2.1 k10.2.2) l
end Go.Proofs.Ytjnahhalgckggaa
