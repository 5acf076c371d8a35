/- The walks of treeLot.has and of right for each kind of expression. No conditions but that there are not more Kids than Go allows. -/
import Derived.Test.YtgmohnbjfemebaaGreatDoorUe
import Derived.Test.YtgmohnbjfemebaaGreatDoorTr
import Derived.Test.YtgmohnbjfemebaaGreatDoorWb
import Derived.Test.YtgmohnbjfemebaaGreatDoorKu
import Derived.Deep.RegionWith
namespace Go.Proofs.YtgmohnbjfemebaaGreatDoor
open Go.RowKit Go.PlainAid

def hasI (m : Int) (nm md : ByteArray) (len : Nat) (num : Int) (name mod : ByteArray) (kids : Int) : Bool := (m == num) && ((nm.toList == name.toList) && ((md.toList == mod.toList) && ((len : Int) == kids)))

set_option maxHeartbeats 1000000 in
theorem has_any (k m : Int) (nm md : ByteArray) (a : Option Addr) (len cap : Nat) (num : Int) (name mod : ByteArray) (kids : Int) (w : World) :
    Calls Tryz.prog 171 #[.agg #[.int .i64 k, .int .i64 m, .string nm, .string md, .slice a len cap], .int .i64 num, .string name, .string mod, .int .i64 kids] w fun r w' => r = .returned (.bool (hasI m nm md len num name mod kids)) ∧ Below w.heap.size w w' := by
  unfold hasI
  cases h1 : (m == num) with
  | false =>
    go_enter Tryz.func171, Tryz.ntmps171
    go_wp2
    go_ret
    exact ⟨rfl, (Below.refl _ _).alloc (Nat.le_refl _) _⟩
  | true =>
  cases h2 : (nm.toList == name.toList) with
  | false =>
    go_enter Tryz.func171, Tryz.ntmps171
    go_wp2
    go_ret
    exact ⟨rfl, (Below.refl _ _).alloc (Nat.le_refl _) _⟩
  | true =>
  cases h3 : (md.toList == mod.toList) with
  | false =>
    go_enter Tryz.func171, Tryz.ntmps171
    go_wp2
    go_ret
    exact ⟨rfl, (Below.refl _ _).alloc (Nat.le_refl _) _⟩
  | true =>
  cases h4 : ((len : Int) == kids) with
  | false =>
    go_enter Tryz.func171, Tryz.ntmps171
    go_wp2
    go_ret
    exact ⟨rfl, (Below.refl _ _).alloc (Nat.le_refl _) _⟩
  | true =>
    go_enter Tryz.func171, Tryz.ntmps171
    go_wp2
    go_ret
    exact ⟨rfl, (Below.refl _ _).alloc (Nat.le_refl _) _⟩

theorem nat0 (n : Nat) : ((n : Int) == 0) = decide (n = 0) := by rw [Bool.eq_iff_iff]; simp
theorem nat2 (n : Nat) : ((n : Int) == 2) = decide (n = 2) := by rw [Bool.eq_iff_iff]; simp; omega
theorem nat3 (n : Nat) : ((n : Int) == 3) = decide (n = 3) := by rw [Bool.eq_iff_iff]; simp; omega
theorem natI (n : Nat) (i : Int) : ((n : Int) == i) = decide ((n : Int) = i) := rfl
theorem eqn (n : Nat) : ((n : Int) == (n : Int)) = true := by simp
theorem eqi (n : Int) : (n == n) = true := by simp
theorem eql (l : List UInt8) : (l == l) = true := by simp
theorem emp : (ByteArray.mk #[]).toList = [] := by rw [ByteArray.toList_eq]
theorem r1 (m : Int) (nm md : ByteArray) (n : Nat) : nodeB 1 m nm md n = (hasI m nm md n m ⟨#[]⟩ ⟨#[]⟩ 0 && (decide (-100000000000000000 < m) && decide (m < 100000000000000000))) := by
  show ((decide (n = 0) && plainB m nm md true false false) && (decide (m < 100000000000000000) && decide (-100000000000000000 < m))) = _
  unfold plainB hasI; rw [emp, eqi, nat0]
  generalize decide (m < 100000000000000000) = x
  generalize decide (-100000000000000000 < m) = y
  cases decide (n = 0) <;> cases (nm.toList == []) <;> cases (md.toList == []) <;> cases x <;> cases y <;> rfl
theorem r2 (m : Int) (nm md : ByteArray) (n : Nat) : nodeB 2 m nm md n = (hasI m nm md n m ⟨#[]⟩ ⟨#[]⟩ 0 && ((m == 0) || (m == 1))) := by
  show ((decide (n = 0) && plainB m nm md true false false) && (decide (m = 0) || decide (m = 1))) = _
  have e0 : decide (m = 0) = (m == 0) := rfl
  have e1 : decide (m = 1) = (m == 1) := rfl
  unfold plainB hasI; rw [emp, eqi, nat0, e0, e1]
  cases decide (n = 0) <;> cases (nm.toList == []) <;> cases (md.toList == []) <;> cases (m == 0) <;> cases (m == 1) <;> rfl
theorem r3 (m : Int) (nm md : ByteArray) (n : Nat) : nodeB 3 m nm md n = (hasI m nm md n 0 nm ⟨#[]⟩ 0 && nameB nm.data.toList) := by
  show ((decide (n = 0) && plainB m nm md false true false) && nameB nm.data.toList) = _
  unfold plainB hasI; rw [emp, eql, nat0]
  cases decide (n = 0) <;> cases (m == 0) <;> cases (md.toList == []) <;> cases nameB nm.data.toList <;> rfl
theorem r4 (m : Int) (nm md : ByteArray) (n : Nat) : nodeB 4 m nm md n = hasI m nm md n 0 nm ⟨#[]⟩ (arityI (primN nm.toList)) := by
  show (plainB m nm md false true false && decide ((n : Int) = arityI (primN nm.toList))) = _
  unfold plainB hasI; rw [emp, eql, natI]
  cases decide ((n : Int) = arityI (primN nm.toList)) <;> cases (m == 0) <;> cases (md.toList == []) <;> rfl
theorem r5 (m : Int) (nm md : ByteArray) (n : Nat) : nodeB 5 m nm md n = hasI m nm md n 0 ⟨#[]⟩ ⟨#[]⟩ 3 := by
  show (decide (n = 3) && plainB m nm md false false false) = _
  unfold plainB hasI; rw [emp, nat3]
  cases decide (n = 3) <;> cases (m == 0) <;> cases (md.toList == []) <;> cases (nm.toList == []) <;> rfl
theorem r6 (m : Int) (nm md : ByteArray) (n : Nat) : nodeB 6 m nm md n = (hasI m nm md n 0 nm ⟨#[]⟩ 2 && nameB nm.data.toList) := by
  show ((decide (n = 2) && plainB m nm md false true false) && nameB nm.data.toList) = _
  unfold plainB hasI; rw [emp, eql, nat2]
  cases decide (n = 2) <;> cases (m == 0) <;> cases (md.toList == []) <;> cases nameB nm.data.toList <;> rfl
theorem r7 (m : Int) (nm md : ByteArray) (n : Nat) : nodeB 7 m nm md n = (hasI m nm md n 0 nm md n && (decide (n ≤ 4) && (nameB nm.data.toList && ((md.toList == []) || nameB md.data.toList)))) := by
  show (((decide (n ≤ 4) && plainB m nm md false true true) && nameB nm.data.toList) && ((md.toList == []) || nameB md.data.toList)) = _
  unfold plainB hasI; rw [eql, eql, eqn]
  cases decide (n ≤ 4) <;> cases (m == 0) <;> cases (md.toList == []) <;> cases nameB nm.data.toList <;> cases nameB md.data.toList <;> rfl
theorem r8 (m : Int) (nm md : ByteArray) (n : Nat) : nodeB 8 m nm md n = (hasI m nm md n 0 ⟨#[]⟩ ⟨#[]⟩ n && decide (n ≤ 8)) := by
  show (decide (n ≤ 8) && plainB m nm md false false false) = _
  unfold plainB hasI; rw [emp, eqn]
  cases decide (n ≤ 8) <;> cases (m == 0) <;> cases (md.toList == []) <;> cases (nm.toList == []) <;> rfl

/-- What right says of a value. -/
def RightAt (F : Nat) (k0 : Int) : Prop := ∀ (k m : Int) (nm md : ByteArray) (a : Option Addr) (len cap : Nat) (w : World), len ≤ maxLen →
  Calls Tryz.prog F #[.agg #[.int .i64 k, .int .i64 m, .string nm, .string md, .slice a len cap]] w fun r w' => r = .returned (.bool (nodeB k0 m nm md len)) ∧ Below w.heap.size w w'

set_option maxHeartbeats 1000000 in
theorem right1 : RightAt 169 1 := by
  intro k m nm md a len cap w hl
  unfold maxLen at hl
  obtain ⟨R, hR⟩ : ∃ R, nodeB 1 m nm md len = R := ⟨_, rfl⟩
  have HX := hide (hR.symm.trans (r1 m nm md len))
  rw [hR]
  clear hR
  go_enter Tryz.func169, Tryz.ntmps169
  go_wp2_with fail
  refine (has_any k m nm md a len cap m ⟨#[]⟩ ⟨#[]⟩ 0 _).mono ?_
  rintro r w2 ⟨rfl, hb2⟩
  have hB2 : Below w.heap.size w w2 := ((Below.refl _ w).alloc (Nat.le_refl _) _).trans (hb2.mono (by simp))
  have n1 : Blk w2 w.heap.size [Value.int .i64 k, .int .i64 m, .string nm, .string md, .slice a len cap] := (Blk.new w [Value.int .i64 k, .int .i64 m, .string nm, .string md, .slice a len cap] 188).below hb2 (by simp)
  have hS2 : w.heap.size < w2.heap.size := by have := hb2.size; rw [alloc_size] at this; omega
  have p1 := n1.cellAt (i := 1) rfl
  have p2 := n1.cellAt (i := 2) rfl
  have p3 := n1.cellAt (i := 3) rfl
  have p4 := n1.cellAt (i := 4) rfl
  have HB2 := hide hB2
  have HS2 := hide hS2
  have N1 := hide n1
  clear hb2 hB2 n1 hS2
  cases hh : hasI m nm md len m ⟨#[]⟩ ⟨#[]⟩ 0 with
  | false =>
    have HR : Hid (R = false) := hide (by rw [unhide HX, hh]; rfl)
    go_wp2
    go_ret
    exact ⟨ret_bool (unhide HR).symm, unhide HB2⟩
  | true =>
  by_cases g1 : -100000000000000000 < m
  · by_cases g2 : m < 100000000000000000
    · skip
      have HR : Hid (R = true) := hide (by rw [unhide HX, hh, decide_eq_true g1, decide_eq_true g2]; simp)
      go_wp2
      go_ret
      exact ⟨ret_bool (by rw [unhide HR]; first | done | exact decide_eq_true (by omega) | exact decide_eq_false (by omega)), unhide HB2⟩
    · skip
      have HR : Hid (R = false) := hide (by rw [unhide HX, hh, decide_eq_false g2]; simp)
      go_wp2
      go_ret
      exact ⟨ret_bool (by rw [unhide HR]; first | done | exact decide_eq_true (by omega) | exact decide_eq_false (by omega)), unhide HB2⟩
  · skip
    have HR : Hid (R = false) := hide (by rw [unhide HX, hh, decide_eq_false g1]; simp)
    go_wp2
    go_ret
    exact ⟨ret_bool (by rw [unhide HR]; first | done | exact decide_eq_true (by omega) | exact decide_eq_false (by omega)), unhide HB2⟩

set_option maxHeartbeats 1000000 in
theorem right2 : RightAt 172 2 := by
  intro k m nm md a len cap w hl
  unfold maxLen at hl
  obtain ⟨R, hR⟩ : ∃ R, nodeB 2 m nm md len = R := ⟨_, rfl⟩
  have HX := hide (hR.symm.trans (r2 m nm md len))
  rw [hR]
  clear hR
  go_enter Tryz.func172, Tryz.ntmps172
  go_wp2_with fail
  refine (has_any k m nm md a len cap m ⟨#[]⟩ ⟨#[]⟩ 0 _).mono ?_
  rintro r w2 ⟨rfl, hb2⟩
  have hB2 : Below w.heap.size w w2 := ((Below.refl _ w).alloc (Nat.le_refl _) _).trans (hb2.mono (by simp))
  have n1 : Blk w2 w.heap.size [Value.int .i64 k, .int .i64 m, .string nm, .string md, .slice a len cap] := (Blk.new w [Value.int .i64 k, .int .i64 m, .string nm, .string md, .slice a len cap] 189).below hb2 (by simp)
  have hS2 : w.heap.size < w2.heap.size := by have := hb2.size; rw [alloc_size] at this; omega
  have p1 := n1.cellAt (i := 1) rfl
  have p2 := n1.cellAt (i := 2) rfl
  have p3 := n1.cellAt (i := 3) rfl
  have p4 := n1.cellAt (i := 4) rfl
  have HB2 := hide hB2
  have HS2 := hide hS2
  have N1 := hide n1
  clear hb2 hB2 n1 hS2
  cases hh : hasI m nm md len m ⟨#[]⟩ ⟨#[]⟩ 0 with
  | false =>
    have HR : Hid (R = false) := hide (by rw [unhide HX, hh]; rfl)
    go_wp2
    go_ret
    exact ⟨ret_bool (unhide HR).symm, unhide HB2⟩
  | true =>
  cases g1 : (m == 0) with
  | true =>
    have HR : Hid (R = true) := hide (by rw [unhide HX, hh, g1]; simp)
    go_wp2
    go_ret
    exact ⟨ret_bool (by rw [unhide HR]; first | done | exact decide_eq_true (by omega) | exact decide_eq_false (by omega)), unhide HB2⟩
  | false =>
  cases g2 : (m == 1) with
  | true =>
    have HR : Hid (R = true) := hide (by rw [unhide HX, hh, g2]; simp)
    go_wp2
    go_ret
    exact ⟨ret_bool (by rw [unhide HR]; first | done | exact decide_eq_true (by omega) | exact decide_eq_false (by omega)), unhide HB2⟩
  | false =>
    have HR : Hid (R = false) := hide (by rw [unhide HX, hh, g1, g2]; simp)
    go_wp2
    go_ret
    exact ⟨ret_bool (by rw [unhide HR]; first | done | exact decide_eq_true (by omega) | exact decide_eq_false (by omega)), unhide HB2⟩

set_option maxHeartbeats 1000000 in
theorem right3 : RightAt 174 3 := by
  intro k m nm md a len cap w hl
  unfold maxLen at hl
  obtain ⟨R, hR⟩ : ∃ R, nodeB 3 m nm md len = R := ⟨_, rfl⟩
  have HX := hide (hR.symm.trans (r3 m nm md len))
  rw [hR]
  clear hR
  go_enter Tryz.func174, Tryz.ntmps174
  go_wp2_with fail
  refine (has_any k m nm md a len cap 0 nm ⟨#[]⟩ 0 _).mono ?_
  rintro r w2 ⟨rfl, hb2⟩
  have hB2 : Below w.heap.size w w2 := ((Below.refl _ w).alloc (Nat.le_refl _) _).trans (hb2.mono (by simp))
  have n1 : Blk w2 w.heap.size [Value.int .i64 k, .int .i64 m, .string nm, .string md, .slice a len cap] := (Blk.new w [Value.int .i64 k, .int .i64 m, .string nm, .string md, .slice a len cap] 190).below hb2 (by simp)
  have hS2 : w.heap.size < w2.heap.size := by have := hb2.size; rw [alloc_size] at this; omega
  have p1 := n1.cellAt (i := 1) rfl
  have p2 := n1.cellAt (i := 2) rfl
  have p3 := n1.cellAt (i := 3) rfl
  have p4 := n1.cellAt (i := 4) rfl
  have HB2 := hide hB2
  have HS2 := hide hS2
  have N1 := hide n1
  clear hb2 hB2 n1 hS2
  cases hh : hasI m nm md len 0 nm ⟨#[]⟩ 0 with
  | false =>
    have HR : Hid (R = false) := hide (by rw [unhide HX, hh]; rfl)
    go_wp2
    go_ret
    exact ⟨ret_bool (unhide HR).symm, unhide HB2⟩
  | true =>
  go_wp2_with fail
  refine (LexNameI_any _ _).mono ?_
  rintro r w3 ⟨rfl, hb3⟩
  have HB3 := hide ((unhide HB2).trans (hb3.mono (unhide HB2).size))
  have HR : Hid (R = nameB nm.data.toList) := hide (by rw [unhide HX, hh]; simp)
  clear hb3
  go_wp2
  go_ret
  exact ⟨ret_bool (unhide HR).symm, unhide HB3⟩

set_option maxHeartbeats 1000000 in
theorem right6 : RightAt 181 6 := by
  intro k m nm md a len cap w hl
  unfold maxLen at hl
  obtain ⟨R, hR⟩ : ∃ R, nodeB 6 m nm md len = R := ⟨_, rfl⟩
  have HX := hide (hR.symm.trans (r6 m nm md len))
  rw [hR]
  clear hR
  go_enter Tryz.func181, Tryz.ntmps181
  go_wp2_with fail
  refine (has_any k m nm md a len cap 0 nm ⟨#[]⟩ 2 _).mono ?_
  rintro r w2 ⟨rfl, hb2⟩
  have hB2 : Below w.heap.size w w2 := ((Below.refl _ w).alloc (Nat.le_refl _) _).trans (hb2.mono (by simp))
  have n1 : Blk w2 w.heap.size [Value.int .i64 k, .int .i64 m, .string nm, .string md, .slice a len cap] := (Blk.new w [Value.int .i64 k, .int .i64 m, .string nm, .string md, .slice a len cap] 193).below hb2 (by simp)
  have hS2 : w.heap.size < w2.heap.size := by have := hb2.size; rw [alloc_size] at this; omega
  have p1 := n1.cellAt (i := 1) rfl
  have p2 := n1.cellAt (i := 2) rfl
  have p3 := n1.cellAt (i := 3) rfl
  have p4 := n1.cellAt (i := 4) rfl
  have HB2 := hide hB2
  have HS2 := hide hS2
  have N1 := hide n1
  clear hb2 hB2 n1 hS2
  cases hh : hasI m nm md len 0 nm ⟨#[]⟩ 2 with
  | false =>
    have HR : Hid (R = false) := hide (by rw [unhide HX, hh]; rfl)
    go_wp2
    go_ret
    exact ⟨ret_bool (unhide HR).symm, unhide HB2⟩
  | true =>
  go_wp2_with fail
  refine (LexNameI_any _ _).mono ?_
  rintro r w3 ⟨rfl, hb3⟩
  have HB3 := hide ((unhide HB2).trans (hb3.mono (unhide HB2).size))
  have HR : Hid (R = nameB nm.data.toList) := hide (by rw [unhide HX, hh]; simp)
  clear hb3
  go_wp2
  go_ret
  exact ⟨ret_bool (unhide HR).symm, unhide HB3⟩

set_option maxHeartbeats 1000000 in
theorem right5 : RightAt 179 5 := by
  intro k m nm md a len cap w hl
  unfold maxLen at hl
  obtain ⟨R, hR⟩ : ∃ R, nodeB 5 m nm md len = R := ⟨_, rfl⟩
  have HX := hide (hR.symm.trans (r5 m nm md len))
  rw [hR]
  clear hR
  go_enter Tryz.func179, Tryz.ntmps179
  go_wp2_with fail
  refine (has_any k m nm md a len cap 0 ⟨#[]⟩ ⟨#[]⟩ 3 _).mono ?_
  rintro r w2 ⟨rfl, hb2⟩
  have hB2 : Below w.heap.size w w2 := ((Below.refl _ w).alloc (Nat.le_refl _) _).trans (hb2.mono (by simp))
  have n1 : Blk w2 w.heap.size [Value.int .i64 k, .int .i64 m, .string nm, .string md, .slice a len cap] := (Blk.new w [Value.int .i64 k, .int .i64 m, .string nm, .string md, .slice a len cap] 192).below hb2 (by simp)
  have hS2 : w.heap.size < w2.heap.size := by have := hb2.size; rw [alloc_size] at this; omega
  have p1 := n1.cellAt (i := 1) rfl
  have p2 := n1.cellAt (i := 2) rfl
  have p3 := n1.cellAt (i := 3) rfl
  have p4 := n1.cellAt (i := 4) rfl
  have HB2 := hide hB2
  have HS2 := hide hS2
  have N1 := hide n1
  clear hb2 hB2 n1 hS2
  go_wp2
  go_ret
  exact ⟨ret_bool (unhide HX).symm, unhide HB2⟩

set_option maxHeartbeats 1000000 in
theorem right8 : RightAt 185 8 := by
  intro k m nm md a len cap w hl
  unfold maxLen at hl
  obtain ⟨R, hR⟩ : ∃ R, nodeB 8 m nm md len = R := ⟨_, rfl⟩
  have HX := hide (hR.symm.trans (r8 m nm md len))
  rw [hR]
  clear hR
  go_enter Tryz.func185, Tryz.ntmps185
  go_wp2_with fail
  refine (has_any k m nm md a len cap 0 ⟨#[]⟩ ⟨#[]⟩ len _).mono ?_
  rintro r w2 ⟨rfl, hb2⟩
  have hB2 : Below w.heap.size w w2 := ((Below.refl _ w).alloc (Nat.le_refl _) _).trans (hb2.mono (by simp))
  have n1 : Blk w2 w.heap.size [Value.int .i64 k, .int .i64 m, .string nm, .string md, .slice a len cap] := (Blk.new w [Value.int .i64 k, .int .i64 m, .string nm, .string md, .slice a len cap] 195).below hb2 (by simp)
  have hS2 : w.heap.size < w2.heap.size := by have := hb2.size; rw [alloc_size] at this; omega
  have p1 := n1.cellAt (i := 1) rfl
  have p2 := n1.cellAt (i := 2) rfl
  have p3 := n1.cellAt (i := 3) rfl
  have p4 := n1.cellAt (i := 4) rfl
  have HB2 := hide hB2
  have HS2 := hide hS2
  have N1 := hide n1
  clear hb2 hB2 n1 hS2
  cases hh : hasI m nm md len 0 ⟨#[]⟩ ⟨#[]⟩ len with
  | false =>
    have HR : Hid (R = false) := hide (by rw [unhide HX, hh]; rfl)
    go_wp2
    go_ret
    exact ⟨ret_bool (unhide HR).symm, unhide HB2⟩
  | true =>
  by_cases g1 : len ≤ 8
  · skip
    have HR : Hid (R = true) := hide (by rw [unhide HX, hh, decide_eq_true g1]; simp)
    go_wp2
    go_ret
    exact ⟨ret_bool (by rw [unhide HR]; first | done | exact decide_eq_true (by omega) | exact decide_eq_false (by omega)), unhide HB2⟩
  · skip
    have HR : Hid (R = false) := hide (by rw [unhide HX, hh, decide_eq_false g1]; simp)
    go_wp2
    go_ret
    exact ⟨ret_bool (by rw [unhide HR]; first | done | exact decide_eq_true (by omega) | exact decide_eq_false (by omega)), unhide HB2⟩

set_option maxHeartbeats 1000000 in
theorem right7 : RightAt 183 7 := by
  intro k m nm md a len cap w hl
  unfold maxLen at hl
  obtain ⟨R, hR⟩ : ∃ R, nodeB 7 m nm md len = R := ⟨_, rfl⟩
  have HX := hide (hR.symm.trans (r7 m nm md len))
  rw [hR]
  clear hR
  go_enter Tryz.func183, Tryz.ntmps183
  go_wp2_with fail
  refine (has_any k m nm md a len cap 0 nm md len _).mono ?_
  rintro r w2 ⟨rfl, hb2⟩
  have hB2 : Below w.heap.size w w2 := ((Below.refl _ w).alloc (Nat.le_refl _) _).trans (hb2.mono (by simp))
  have n1 : Blk w2 w.heap.size [Value.int .i64 k, .int .i64 m, .string nm, .string md, .slice a len cap] := (Blk.new w [Value.int .i64 k, .int .i64 m, .string nm, .string md, .slice a len cap] 194).below hb2 (by simp)
  have hS2 : w.heap.size < w2.heap.size := by have := hb2.size; rw [alloc_size] at this; omega
  have p1 := n1.cellAt (i := 1) rfl
  have p2 := n1.cellAt (i := 2) rfl
  have p3 := n1.cellAt (i := 3) rfl
  have p4 := n1.cellAt (i := 4) rfl
  have HB2 := hide hB2
  have HS2 := hide hS2
  have N1 := hide n1
  clear hb2 hB2 n1 hS2
  cases hh : hasI m nm md len 0 nm md len with
  | false =>
    have HR : Hid (R = false) := hide (by rw [unhide HX, hh]; rfl)
    go_wp2
    go_ret
    exact ⟨ret_bool (unhide HR).symm, unhide HB2⟩
  | true =>
  by_cases g1 : len ≤ 4
  · go_wp2_with fail
    refine (LexNameI_any _ _).mono ?_
    rintro r w3 ⟨rfl, hb3⟩
    have q3 := ((unhide N1).below hb3 (unhide HS2)).cellAt (i := 3) rfl
    have HB3 := hide ((unhide HB2).trans (hb3.mono (unhide HB2).size))
    clear hb3 p1 p2 p3 p4 HB2 N1 HS2
    cases hn : nameB nm.data.toList with
    | false =>
      have HR : Hid (R = false) := hide (by rw [unhide HX, hh, hn]; simp)
      go_wp2
      go_ret
      exact ⟨ret_bool (by rw [unhide HR]; first | done | exact decide_eq_true (by omega) | exact decide_eq_false (by omega)), unhide HB3⟩
    | true =>
    cases he : (md.toList == []) with
    | true =>
      have HR : Hid (R = true) := hide (by rw [unhide HX, hh, decide_eq_true g1, hn, he]; simp)
      go_wp2
      go_ret
      exact ⟨ret_bool (by rw [unhide HR]; first | done | exact decide_eq_true (by omega) | exact decide_eq_false (by omega)), unhide HB3⟩
    | false =>
      go_wp2_with fail
      refine (LexNameI_any _ _).mono ?_
      rintro r w4 ⟨rfl, hb4⟩
      have HB4 := hide ((unhide HB3).trans (hb4.mono (unhide HB3).size))
      have HR : Hid (R = nameB md.data.toList) := hide (by rw [unhide HX, hh, decide_eq_true g1, hn, he]; simp)
      clear hb4
      go_wp2
      go_ret
      exact ⟨ret_bool (unhide HR).symm, unhide HB4⟩
  · skip
    have HR : Hid (R = false) := hide (by rw [unhide HX, hh, decide_eq_false g1]; simp)
    go_wp2
    go_ret
    exact ⟨ret_bool (by rw [unhide HR]; first | done | exact decide_eq_true (by omega) | exact decide_eq_false (by omega)), unhide HB2⟩

theorem nodeB_none {k : Int} (m : Int) (nm md : ByteArray) (n : Nat) (n1 : (k == 1) = false) (n2 : (k == 2) = false) (n3 : (k == 3) = false) (n4 : (k == 4) = false) (n5 : (k == 5) = false) (n6 : (k == 6) = false) (n7 : (k == 7) = false) (n8 : (k == 8) = false) : nodeB k m nm md n = false := by
  simp only [beq_eq_false_iff_ne] at n1 n2 n3 n4 n5 n6 n7 n8
  unfold nodeB
  rw [if_neg n1, if_neg n2, if_neg n3, if_neg n4, if_neg n5, if_neg n6, if_neg n7, if_neg n8]
set_option maxHeartbeats 1000000 in
theorem right0 (v : Value) (w : World) (k m : Int) (nm md : ByteArray) (a : Option Addr) (len cap : Nat) (hv : v = .agg #[.int .i64 k, .int .i64 m, .string nm, .string md, .slice a len cap]) :
    Calls Tryz.prog 187 #[v] w fun r w' => r = .returned (.bool false) ∧ Below w.heap.size w w' := by
  subst hv
  go_enter Tryz.func187, Tryz.ntmps187
  go_wp2
  go_ret
  exact ⟨rfl, (Below.refl _ _).alloc (Nat.le_refl _) _⟩

set_option maxHeartbeats 1000000 in
theorem right4 : RightAt 176 4 := by
  intro k m nm md a len cap w hl
  rw [r4]
  go_enter Tryz.func176, Tryz.ntmps176
  go_wp2
  go_region_with (first | (go_at_call 178; refine (TreeArityI_any _ _).mono ?_; rintro e w2 ⟨rfl, rfl⟩) | (go_at_call 171; refine (has_any k m nm md a len cap 0 nm ⟨#[]⟩ _ _).mono ?_; rintro e w2 ⟨rfl, hb2⟩))
  all_goals
    go_wp2
    go_ret
    exact ⟨rfl, (((Below.refl _ w).alloc (Nat.le_refl _) _).drew).trans (hb2.mono (by simp))⟩

end Go.Proofs.YtgmohnbjfemebaaGreatDoor
