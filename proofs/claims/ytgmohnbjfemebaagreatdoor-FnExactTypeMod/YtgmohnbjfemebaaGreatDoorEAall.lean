/- Types of expressions, plain; the walks of spec.l4Var, spec.l4List and spec.l4Apply. Conditions: the rows can be read. Variables as a chain of pointers; the walks of impl.typeVars and find. Conditions: the row can be read. Faults as errors: the walks of spec.l4Apply, impl's fault and typeFaultOf. Conditions: the rows can be read; errors.errorType holds the handle of error. The walks of typeFaultOf at an error, and of slices.Equal at numbers. Conditions: the rows can be read; errors.errorType holds the handle of error. The walks of fit and of the rules for numbers, flags and variables. Conditions: the rows and the chain of variables can be read; the check's place can be read. The walks of the rules for primitives and let. Conditions: as in Ee. The type of an expression, plain. No conditions. slices.Repeat at one number, and the rule for rows that are written. Conditions: at most eight parts; they can be read. A module with its faces in a block; the walk of spec's kids out of expr's contract. Conditions: all can be read. -/
import Derived.Test.YtgmohnbjfemebaaGreatDoorFb
import Derived.Test.YtgmohnbjfemebaaGreatDoorTj
import Derived.Deep.LoopGhost
import Derived.Test.YtgmohnbjfemebaaGreatDoorAs
import Derived.Test.YtgmohnbjfemebaaGreatDoorHd
import Derived.Test.YtgmohnbjfemebaaGreatDoorNJall
import Derived.Test.YtgmohnbjfemebaaGreatDoorTq
import Derived.Laws.CopyOwn
import Derived.Deep.RegionLaw
import Derived.Deep.RegionHeld3
import Derived.Test.YtgmohnbjfemebaaGreatDoorVc
import Derived.Laws.OwnMore
namespace Go.Proofs.YtgmohnbjfemebaaGreatDoor
open Go.RowKit Go.PlainAid

def isA (nm : ByteArray) (a : TA) : Bool := a.name.toList == nm.toList
/-- The type of the last variable of a name, and a code. -/
def varT (vars : List TA) (nm : ByteArray) : Int × Int := match vars.reverse.find? (isA nm) with | some a => (a.type, 0) | none => (0, 2)
/-- The type of a row that is written, and a code. -/
def listT (have_ : List Int) : Int × Int := if have_.all (fun x => x == 1) = true then (3, 0) else (0, 4)
/-- The type of what is applied, and a code. -/
def applyT (want : List Int) (res : Int) (have_ : List Int) : Int × Int := if want.length ≠ have_.length then (0, 3) else if want = have_ then (res, 0) else (0, 4)
theorem varT_at {vars : List TA} {nm : ByteArray} {k : Nat} (hk : k < vars.length) (hno : ∀ j (hj : j < vars.length), k < j → isA nm vars[j] = false) (he : isA nm vars[k] = true) : varT vars nm = (vars[k].type, 0) := by
  have : vars.reverse.find? (isA nm) = some vars[k] := by
    rw [List.find?_eq_some_iff_getElem]
    refine ⟨he, vars.length - 1 - k, by rw [List.length_reverse]; omega, ?_, fun j hj => ?_⟩
    · rw [List.getElem_reverse]
      congr 1
      omega
    · rw [List.getElem_reverse]
      simp [hno (vars.length - 1 - j) (by omega) (by omega)]
  unfold varT
  rw [this]
theorem varT_none {vars : List TA} {nm : ByteArray} (hno : ∀ j (hj : j < vars.length), isA nm vars[j] = false) : varT vars nm = (0, 2) := by
  have : vars.reverse.find? (isA nm) = none := by
    rw [List.find?_eq_none]
    intro x hx
    obtain ⟨j, hj, rfl⟩ := List.getElem_of_mem (List.mem_reverse.1 hx)
    simp [hno j hj]
  unfold varT
  rw [this]

set_option maxHeartbeats 1000000 in
theorem l4Var_any (lo : Nat) (a : Option Addr) (cap : Nat) (vars : List TA) (nm : ByteArray) (w : World) (h : IsArgs (IsArg w lo w.heap.size) w lo w.heap.size a vars) (hl : vars.length ≤ maxLen) :
    Calls Tryz.prog 84 #[.slice a vars.length cap, .string nm] w fun r w' => r = .returned (.tuple #[.int .i64 (varT vars nm).1, .int .i64 (varT vars nm).2]) ∧ w = w' := by
  unfold maxLen at hl
  have HW := hide h
  clear h
  obtain ⟨R, hR⟩ : ∃ R, varT vars nm = R := ⟨_, rfl⟩
  rw [hR]
  have HR := hide hR
  clear hR
  obtain ⟨r1, r2⟩ := R
  dsimp only
  go_enter Tryz.func84, Tryz.ntmps84
  go_wp2
  go_loop [6] (fun i => ∃ k : Nat, k ≤ vars.length ∧ i = .int .i64 ((k : Int) - 1) ∧ Hid (∀ j (hj : j < vars.length), k ≤ j → isA nm vars[j] = false)) (fun i => (intOf i + 1).toNat)
  case atStart => exact ⟨vars.length, Nat.le_refl _, by go_num, hide (fun j hj hk => absurd hj (by omega))⟩
  case round =>
    obtain ⟨k, hk, rfl, HN⟩ := hrel
    rcases k with _ | k
    · have HE := hide (Prod.mk.inj ((unhide HR).symm.trans (varT_none (fun j hj => unhide HN j hj (Nat.zero_le _)))))
      go_wp2
      go_ret2
      refine ⟨?_, rfl⟩
      rw [(unhide HE).1, (unhide HE).2]
      rfl
    · have hp : k < vars.length := by omega
      rcases unhide HW with hq | ⟨b, off, rfl, hbl, hbn, hcs⟩
      · rw [hq] at hp; simp at hp
      obtain ⟨c0, c1, d0, d1, hr⟩ := hcs k hp
      have HNX : Hid (isA nm (vars[k]'hp) = false → ∀ j (hj : j < vars.length), k ≤ j → isA nm vars[j] = false) := hide (fun h2 j hj hjk => by
        by_cases e : j = k
        · subst e; exact h2
        · exact unhide HN j hj (by omega))
      have HFX := hide (fun (h2 : isA nm (vars[k]'hp) = true) => Prod.mk.inj ((unhide HR).symm.trans (varT_at hp (fun j hj hjk => unhide HN j hj (by omega)) h2)))
      obtain ⟨x, hx⟩ : ∃ x, vars[k]'hp = x := ⟨_, rfl⟩
      rw [hx] at hr HNX HFX
      obtain ⟨xn, xt⟩ := x
      have hv := hr.1
      simp only [Value.agg.injEq, Array.mk.injEq, List.cons.injEq, and_true] at hv
      obtain ⟨rfl, rfl⟩ := hv
      have HIS : Hid (isA nm ⟨xn, xt⟩ = (xn.toList == nm.toList)) := hide rfl
      have hk1 : (((k + 1 : Nat) : Int) - 1) = (k : Int) := by omega
      rw [hk1]
      clear hcs hr hx hk1
      cases he : (xn.toList == nm.toList) with
      | true =>
        have HE := hide (unhide HFX ((unhide HIS).trans he))
        go_wp2
        go_ret2
        refine ⟨?_, rfl⟩
        rw [(unhide HE).1, (unhide HE).2]
        rfl
      | false =>
        have HE := hide (unhide HNX ((unhide HIS).trans he))
        go_wp2
        go_round
        case rel => exact ⟨k, by omega, by go_num, HE⟩
        case measure => simp [intOf] <;> omega

set_option maxHeartbeats 1000000 in
theorem l4List_any (lo : Nat) (a : Option Addr) (cap : Nat) (zs : List Int) (w : World) (h : IsInts w lo w.heap.size a zs) (hl : zs.length ≤ maxLen) :
    Calls Tryz.prog 89 #[.slice a zs.length cap] w fun r w' => r = .returned (.tuple #[.int .i64 (listT zs).1, .int .i64 (listT zs).2]) ∧ w = w' := by
  unfold maxLen at hl
  have HW := hide h
  clear h
  obtain ⟨R, hR⟩ : ∃ R, listT zs = R := ⟨_, rfl⟩
  rw [hR]
  have HR := hide hR
  clear hR
  obtain ⟨r1, r2⟩ := R
  dsimp only
  go_enter Tryz.func89, Tryz.ntmps89
  go_wp2
  go_loop [4] (fun i => ∃ k : Nat, k ≤ zs.length ∧ i = .int .i64 k ∧ Hid (∀ j (hj : j < zs.length), j < k → zs[j] = 1)) (fun i => zs.length - (intOf i).toNat)
  case atStart => exact ⟨0, Nat.zero_le _, rfl, hide (fun j _ hj => absurd hj (Nat.not_lt_zero _))⟩
  case round =>
    obtain ⟨k, hk, rfl, HN⟩ := hrel
    by_cases hp : k < zs.length
    · rcases unhide HW with hq | ⟨b, off, rfl, hbl, hbn, hc⟩
      · rw [hq] at hp; simp at hp
      have hck := hc k hp
      by_cases h1 : zs[k]'hp = 1
      · have HNX : Hid (∀ j (hj : j < zs.length), j < k + 1 → zs[j] = 1) := hide (fun j hj hjk => by
          by_cases e : j = k
          · subst e; exact h1
          · exact unhide HN j hj (by omega))
        rw [h1] at hck
        clear hc h1
        go_wp2
        go_round
        case rel => exact ⟨k + 1, by omega, by go_num, HNX⟩
        case measure => simp [intOf]; omega
      · have HE : Hid (r1 = 0 ∧ r2 = 4) := hide (by
          have h2 : listT zs = (0, 4) := by
            unfold listT
            rw [if_neg (fun g => h1 (by have := List.all_eq_true.1 g _ (List.getElem_mem hp); simpa using this))]
          exact Prod.mk.inj ((unhide HR).symm.trans h2))
        have hne : ((zs[k]'hp) != 1) = true := by simpa using h1
        generalize zs[k]'hp = x at hck hne
        clear hc h1
        go_wp2
        go_ret2
        refine ⟨?_, rfl⟩
        rw [(unhide HE).1, (unhide HE).2]
        rfl
    · have HE : Hid (r1 = 3 ∧ r2 = 0) := hide (by
        have h2 : listT zs = (3, 0) := by
          unfold listT
          rw [if_pos (List.all_eq_true.2 (fun x hx => by
            obtain ⟨j, hj, rfl⟩ := List.getElem_of_mem hx
            simpa using unhide HN j hj (by omega)))]
        exact Prod.mk.inj ((unhide HR).symm.trans h2))
      go_wp2
      go_ret2
      refine ⟨?_, rfl⟩
      rw [(unhide HE).1, (unhide HE).2]
      rfl
end Go.Proofs.YtgmohnbjfemebaaGreatDoor

namespace Go.Proofs.YtgmohnbjfemebaaGreatDoor
open Go.RowKit Go.PlainAid

/-- A chain of variables, the last one first. -/
def IsV (w : World) (n : Nat) : Value → List TA → Prop
  | p, [] => p = .pointer none
  | p, a :: t => ∃ (b : Nat) (q : Value), p = .pointer (some ⟨b, 0, none⟩) ∧ b < n ∧ w.cell? ⟨b, 0, none⟩ = some (.string a.name) ∧ w.cell? ⟨b, 1, none⟩ = some (.int .i64 a.type) ∧ w.cell? ⟨b, 2, none⟩ = some q ∧ IsV w n q t
theorem IsV.kept {w w' : World} {n m : Nat} (hb : Below n w w') (hm : n ≤ m) : ∀ {p : Value} {l : List TA}, IsV w n p l → IsV w' m p l
  | _, [], h => h
  | _, _ :: _, h => by
    obtain ⟨b, q, h1, h2, h3, h4, h5, h6⟩ := h
    exact ⟨b, q, h1, by omega, (hb.cell (p := ⟨b, 0, none⟩) h2).trans h3, (hb.cell (p := ⟨b, 1, none⟩) h2).trans h4, (hb.cell (p := ⟨b, 2, none⟩) h2).trans h5, h6.kept hb hm⟩
theorem IsV.form {w : World} {n : Nat} {p : Value} : ∀ {l : List TA}, IsV w n p l → ∃ a, p = .pointer a
  | [], h => ⟨none, h⟩
  | _ :: _, h => by
    obtain ⟨b, q, h1, _⟩ := h
    exact ⟨_, h1⟩

set_option maxHeartbeats 2000000 in
theorem typeVars_any (lo : Nat) (a : Option Addr) (cap : Nat) (vars : List TA) (w : World) (h : IsArgs (IsArg w lo w.heap.size) w lo w.heap.size a vars) (hl : vars.length ≤ maxLen) :
    Calls Tryz.prog 37 #[.slice a vars.length cap] w fun r w' => ∃ p : Value, r = .returned p ∧ IsV w' w'.heap.size p vars.reverse ∧ Below w.heap.size w w' := by
  unfold maxLen at hl
  have HW := hide h
  clear h
  go_enter Tryz.func37, Tryz.ntmps37
  go_wp2
  go_loopw [3, 5, 8] (fun p _ i wr => ∃ (k : Nat) (pa : Option Addr), k ≤ vars.length ∧ i = .int .i64 k ∧ p = .pointer pa ∧ Hid (IsV wr wr.heap.size (.pointer pa) (vars.take k).reverse) ∧ Hid (Below w.heap.size w wr)) (fun _ _ i _ => vars.length - (intOf i).toNat)
  case atStart => exact ⟨0, none, Nat.zero_le _, rfl, rfl, hide rfl, hide (Below.refl _ _)⟩
  case round =>
    obtain ⟨k, pa, hk, rfl, rfl, HV, HB⟩ := hrel
    by_cases hp : k < vars.length
    · rcases (unhide HW).kept (unhide HB) (unhide HB).size with hq | ⟨b, off, rfl, hbl, hbn, hcs⟩
      · rw [hq] at hp; simp at hp
      obtain ⟨c0, c1, d0, d1, hr⟩ := hcs k hp
      have htk : (vars.take (k + 1)).reverse = vars[k] :: (vars.take k).reverse := by rw [List.take_succ_eq_append_getElem hp]; simp
      obtain ⟨x, hx⟩ : ∃ x, vars[k]'hp = x := ⟨_, rfl⟩
      rw [hx] at hr htk
      obtain ⟨xn, xt⟩ := x
      have hv := hr.1
      simp only [Value.agg.injEq, Array.mk.injEq, List.cons.injEq, and_true] at hv
      obtain ⟨rfl, rfl⟩ := hv
      have HTK := hide htk
      clear hcs hr hx htk
      go_wp2
      go_roundw
      case rel =>
        refine ⟨k + 1, some ⟨wr.heap.size + 1, 0, none⟩, by omega, by go_num, rfl, hide ?_, hide (((unhide HB).alloc (unhide HB).size _).alloc (by have := (unhide HB).size; simp; omega) _)⟩
        rw [unhide HTK]
        have e : ∀ i, ((wr.alloc (.cells #[.string xn, .int .i64 xt] 37)).alloc (.cells #[.string xn, .int .i64 xt, .pointer pa] 151)).cell? ⟨wr.heap.size + 1, i, none⟩ = (#[Value.string xn, .int .i64 xt, .pointer pa] : Array Value)[i]? := fun i => by
          have := alloc_cell (wr.alloc (.cells #[.string xn, .int .i64 xt] 37)) #[.string xn, .int .i64 xt, .pointer pa] 151 i
          rw [alloc_size] at this
          exact this
        exact ⟨wr.heap.size + 1, .pointer pa, rfl, by rw [alloc_size, alloc_size]; omega, e 0, e 1, e 2, (unhide HV).kept (((Below.refl _ wr).alloc (Nat.le_refl _) _).alloc (by simp) _) (by rw [alloc_size, alloc_size]; omega)⟩
      case measure => simp [intOf]; omega
    · have hek : vars.take k = vars := List.take_of_length_le (by omega)
      rw [hek] at HV
      go_wp2
      go_ret
      exact ⟨_, rfl, unhide HV, unhide HB⟩

/-- What find answers on a chain. -/
def findV (l : List TA) (nm : ByteArray) : Int × Bool := match l.find? (isA nm) with | some a => (a.type, true) | none => (0, false)
theorem findV_cons (x : TA) (t : List TA) (nm : ByteArray) : findV (x :: t) nm = if isA nm x = true then (x.type, true) else findV t nm := by
  unfold findV
  rw [List.find?_cons]
  cases h : isA nm x <;> simp

set_option maxHeartbeats 2000000 in
theorem findV_any (p : Value) (l : List TA) (nm : ByteArray) (w : World) (h : IsV w w.heap.size p l) :
    Calls Tryz.prog 107 #[p, .string nm] w fun r w' => r = .returned (.tuple #[.int .i64 (findV l nm).1, .bool (findV l nm).2]) ∧ w = w' := by
  obtain ⟨R, hR⟩ : ∃ R, findV l nm = R := ⟨_, rfl⟩
  rw [hR]
  have HR := hide hR
  clear hR
  obtain ⟨r1, r2⟩ := R
  dsimp only
  obtain ⟨pa, rfl⟩ := h.form
  have HV := hide h
  clear h
  go_enter Tryz.func107, Tryz.ntmps107
  go_wp2
  go_loopg [0] l.length (fun g q wr => ∃ (qa : Option Addr) (l2 : List TA), q = .pointer qa ∧ Hid (g = l2.length) ∧ Hid (IsV w w.heap.size (.pointer qa) l2) ∧ Hid (findV l2 nm = (r1, r2)) ∧ w = wr)
  case atStart => exact ⟨pa, l, rfl, hide rfl, HV, HR, rfl⟩
  case round =>
    obtain ⟨qa, l2, rfl, HG, HV2, HR2, rfl⟩ := hrel
    rcases l2 with _ | ⟨x, t⟩
    · have hq : (Value.pointer qa) = .pointer none := unhide HV2
      cases hq
      have HE := hide (Prod.mk.inj (show ((0 : Int), false) = (r1, r2) from unhide HR2))
      go_wp2
      go_ret2
      refine ⟨?_, rfl⟩
      rw [← (unhide HE).1, ← (unhide HE).2]
      rfl
    · obtain ⟨b, q, hq, hbn, c0, c1, c2, hV⟩ := unhide HV2
      cases hq
      obtain ⟨qb, rfl⟩ := hV.form
      have HV3 := hide hV
      have HC := hide ((findV_cons x t nm).symm.trans (unhide HR2))
      have HIS : Hid (isA nm x = (x.name.toList == nm.toList)) := hide rfl
      have HGG : Hid (t.length < gk) := hide (by have := unhide HG; rw [List.length_cons] at this; omega)
      obtain ⟨xn, xt⟩ := x
      dsimp only at c0 c1 HIS
      clear hV HV2 HR2 HG
      cases he : (xn.toList == nm.toList) with
      | true =>
        have HE : Hid (xt = r1 ∧ true = r2) := hide (by
          have := unhide HC
          rw [if_pos ((unhide HIS).trans he)] at this
          exact Prod.mk.inj this)
        clear HC
        go_wp2
        go_ret2
        refine ⟨?_, rfl⟩
        rw [← (unhide HE).1, ← (unhide HE).2]
        rfl
      | false =>
        have HE : Hid (findV t nm = (r1, r2)) := hide (by
          have := unhide HC
          rw [if_neg (by rw [unhide HIS, he]; simp)] at this
          exact this)
        clear HC
        go_wp2
        go_roundg t.length
        case rel => exact ⟨qb, t, rfl, hide rfl, HV3, HE, rfl⟩
        case measure => exact unhide HGG
end Go.Proofs.YtgmohnbjfemebaaGreatDoor

namespace Go.Proofs.YtgmohnbjfemebaaGreatDoor
open Go.RowKit Go.PlainAid

theorem applyT_len {want have_ : List Int} {res : Int} (h : want.length ≠ have_.length) : applyT want res have_ = (0, 3) := by unfold applyT; rw [if_pos h]
theorem applyT_ne {want have_ : List Int} {res : Int} {k : Nat} (hl : want.length = have_.length) (h1 : k < want.length) (h2 : k < have_.length) (h : want[k] ≠ have_[k]) : applyT want res have_ = (0, 4) := by
  unfold applyT
  rw [if_neg (by omega), if_neg (fun e => h (by subst e; rfl))]
theorem applyT_eq {want have_ : List Int} {res : Int} (hl : want.length = have_.length) (h : ∀ j (h1 : j < want.length) (h2 : j < have_.length), want[j] = have_[j]) : applyT want res have_ = (res, 0) := by
  unfold applyT
  rw [if_neg (by omega), if_pos (List.ext_getElem hl (fun j h1 h2 => h j h1 h2))]

set_option maxHeartbeats 2000000 in
theorem l4Apply_any (lo lo' : Nat) (a a2 : Option Addr) (cap cap2 : Nat) (ws hs : List Int) (res : Int) (w : World) (h : IsInts w lo w.heap.size a ws) (h2 : IsInts w lo' w.heap.size a2 hs) (hl : ws.length ≤ 1048576) :
    Calls Tryz.prog 88 #[.slice a ws.length cap, .int .i64 res, .slice a2 hs.length cap2] w fun r w' => r = .returned (.tuple #[.int .i64 (applyT ws res hs).1, .int .i64 (applyT ws res hs).2]) ∧ Below w.heap.size w w' := by
  obtain ⟨R, hR⟩ : ∃ R, applyT ws res hs = R := ⟨_, rfl⟩
  rw [hR]
  have HR := hide hR
  clear hR
  obtain ⟨r1, r2⟩ := R
  dsimp only
  have HW := hide h
  have HV := hide h2
  clear h h2
  by_cases hlen : ws.length = hs.length
  · have hq : ((ws.length : Int) != (hs.length : Int)) = false := by rw [hlen]; simp
    have HLEN := hide hlen
    clear hlen
    go_enter Tryz.func88, Tryz.ntmps88
    go_wp2
    go_loopw [8] (fun i wr => ∃ k n : Nat, k ≤ ws.length ∧ i = .int .i64 k ∧ wr = w.drewN n ∧ Hid (∀ j (h1 : j < ws.length) (h2 : j < hs.length), j < k → ws[j] = hs[j])) (fun i _ => ws.length - (intOf i).toNat)
    case atStart => exact ⟨0, 0, Nat.zero_le _, rfl, rfl, hide (fun j _ _ hj => absurd hj (Nat.not_lt_zero _))⟩
    case round =>
      obtain ⟨k, n, hk, rfl, rfl, HN⟩ := hrel
      by_cases hp : k < ws.length
      · have hp2 : k < hs.length := by have := unhide HLEN; omega
        rcases unhide HW with h | ⟨b, off, rfl, hbl, hb, hc⟩
        · rw [h] at hp; simp at hp
        rcases unhide HV with h | ⟨b2, off2, rfl, hbl2, hb2, hc2⟩
        · rw [h] at hp2; simp at hp2
        have hck := hc k hp
        have hck2 := hc2 k hp2
        by_cases he : ws[k] = hs[k]
        · have HNX : Hid (∀ j (h1 : j < ws.length) (h2 : j < hs.length), j < k + 1 → ws[j] = hs[j]) := hide (fun j h1 h2 hj => by
            by_cases e : j = k
            · subst e; exact he
            · exact unhide HN j h1 h2 (by omega))
          rw [← he] at hck2
          obtain ⟨x, hx⟩ : ∃ x, ws[k]'hp = x := ⟨_, rfl⟩
          rw [hx] at hck hck2
          have hxx : (x != x) = false := by simp
          clear hc hc2 hx he
          go_wp2
          go_quiet (fail)
          go_wp2
          go_roundw
          case rel => exact ⟨k + 1, _, by omega, by go_num, rfl, HNX⟩
          case measure => simp [intOf]; omega
        · have HE := hide (Prod.mk.inj ((unhide HR).symm.trans (applyT_ne (res := res) (unhide HLEN) hp hp2 he)))
          have hxx : (ws[k] != hs[k]) = true := by simpa using he
          obtain ⟨x, hx⟩ : ∃ x, ws[k]'hp = x := ⟨_, rfl⟩
          obtain ⟨y, hy⟩ : ∃ y, hs[k]'hp2 = y := ⟨_, rfl⟩
          rw [hx] at hck
          rw [hy] at hck2
          rw [hx, hy] at hxx
          clear hc hc2 hx hy he
          go_wp2
          go_quiet (fail)
          go_wp2
          go_ret2
          refine ⟨?_, below_drewN (below_drewN (Below.refl _ _) _) _⟩
          rw [(unhide HE).1, (unhide HE).2]
          rfl
      · have HE := hide (Prod.mk.inj ((unhide HR).symm.trans (applyT_eq (res := res) (unhide HLEN) (fun j h1 h2 => unhide HN j h1 h2 (by omega)))))
        go_wp2
        go_ret2
        refine ⟨?_, below_drewN (Below.refl _ _) _⟩
        rw [(unhide HE).1, (unhide HE).2]
        rfl
  · have hq : ((ws.length : Int) != (hs.length : Int)) = true := bne_iff_ne.2 (by omega)
    have HE := hide (Prod.mk.inj ((unhide HR).symm.trans (applyT_len (res := res) hlen)))
    clear hlen
    go_enter Tryz.func88, Tryz.ntmps88
    go_wp2
    go_ret2
    refine ⟨?_, Below.refl _ _⟩
    rw [(unhide HE).1, (unhide HE).2]
    rfl

/-- An error that tells a fault. -/
def IsErr (w : World) (n : Nat) (v : Value) (code place : Int) : Prop := ∃ b : Nat, v = .iface 153 (.pointer (some ⟨b, 0, none⟩)) ∧ b < n ∧ w.cell? ⟨b, 0, none⟩ = some (.int .i64 code) ∧ w.cell? ⟨b, 1, none⟩ = some (.int .i64 place)
theorem IsErr.kept {w w' : World} {n m : Nat} {v : Value} {c p : Int} (h : IsErr w n v c p) (hb : Below n w w') (hm : n ≤ m) : IsErr w' m v c p := by
  obtain ⟨b, h1, h2, h3, h4⟩ := h
  exact ⟨b, h1, by omega, (hb.cell (p := ⟨b, 0, none⟩) h2).trans h3, (hb.cell (p := ⟨b, 1, none⟩) h2).trans h4⟩

set_option maxHeartbeats 1000000 in
theorem fault_any (C : Nat) (code place : Int) (w : World) (hc : w.cell? ⟨C, 5, none⟩ = some (.int .i64 place)) :
    Calls Tryz.prog 91 #[.pointer (some ⟨C, 0, none⟩), .int .i64 code] w fun r w' => ∃ v : Value, r = .returned v ∧ IsErr w' w'.heap.size v code place ∧ Below w.heap.size w w' := by
  go_enter Tryz.func91, Tryz.ntmps91
  go_wp2
  go_ret
  refine ⟨_, rfl, ⟨w.heap.size, rfl, by simp, ?_, ?_⟩, (Below.refl _ _).alloc (Nat.le_refl _) _⟩
  · rw [alloc_cell]; rfl
  · rw [alloc_cell]; rfl

/-- errors.errorType holds the handle of error. -/
def Held (w : World) : Prop := w.cell? ⟨0, 0, none⟩ = some (.iface 231 (.agg #[.pointer (some ⟨1, 91, none⟩)]))
theorem Held.pos {w : World} (h : Held w) : 0 < w.heap.size := by
  rcases Nat.eq_zero_or_pos w.heap.size with h0 | h0
  · unfold Held at h; simp [World.cell?, h0] at h
  · exact h0
theorem Held.kept {w w' : World} (h : Held w) (hb : Below w.heap.size w w') : Held w' := (hb.cell (p := ⟨0, 0, none⟩) h.pos).trans h

set_option maxHeartbeats 2000000 in
theorem faultOf_nil (w : World) : Calls Tryz.prog 38 #[.nilIface] w fun r w' => r = .returned (.agg #[.int .i64 0, .int .i64 0]) ∧ Below w.heap.size w w' := by
  go_enter Tryz.func38, Tryz.ntmps38
  go_wp2_with fail
  refine (as_nil _ _).mono ?_
  rintro r w2 ⟨rfl, rfl⟩
  have HB := hide (((Below.refl w.heap.size w).alloc (Nat.le_refl _) (.cells #[.int .i64 0, .int .i64 0] 45)).alloc (by simp) (.cells #[.pointer none] 153))
  have n1 := (Blk.new w [.int .i64 0, .int .i64 0] 45).old (.cells #[.pointer none] 153) (by simp)
  have N1 := hide n1
  clear n1
  go_wp2
  have hn := unhide N1
  have hFB := unhide HB
  have g0 := hn.cellAt (i := 0) rfl
  have g1 := hn.cellAt (i := 1) rfl
  exact bodyPost_ret (v := .agg #[.int .i64 0, .int .i64 0]) (by simp [results, Tryz.results38, go_sem, g0, g1]) rfl ⟨rfl, hFB⟩
end Go.Proofs.YtgmohnbjfemebaaGreatDoor

namespace Go.Proofs.YtgmohnbjfemebaaGreatDoor
open Go.RowKit Go.PlainAid

set_option maxHeartbeats 2000000 in
theorem faultOf_hit (v : Value) (c p : Int) (w : World) (hg : Held w) (he : IsErr w w.heap.size v c p) : Calls Tryz.prog 38 #[v] w fun r w' => r = .returned (.agg #[.int .i64 c, .int .i64 p]) ∧ Below w.heap.size w w' := by
  obtain ⟨b, rfl, hb, h0, h1⟩ := he
  have HG := hide hg
  have H0 := hide h0
  have H1 := hide h1
  clear hg h0 h1
  go_enter Tryz.func38, Tryz.ntmps38
  go_wp2_with fail
  have HB := hide (((Below.refl w.heap.size w).alloc (Nat.le_refl _) (.cells #[.int .i64 0, .int .i64 0] 45)).alloc (by simp) (.cells #[.pointer none] 153))
  have N1 := hide ((Blk.new w [.int .i64 0, .int .i64 0] 45).old (.cells #[.pointer none] 153) (by simp))
  have N2 := hide (Blk.new (w.alloc (.cells #[.int .i64 0, .int .i64 0] 45)) [.pointer none] 153)
  rw [show (w.alloc (.cells #[.int .i64 0, .int .i64 0] 45)).heap.size = w.heap.size + 1 from by simp] at N2
  refine (as_hit ⟨b, 0, none⟩ ⟨w.heap.size + 1, 0, none⟩ (.pointer none) _ ((unhide HG).kept (unhide HB)) ((unhide N2).cellAt (i := 0) rfl) ((unhide N2).2 0)).mono ?_
  rintro r w2 ⟨rfl, hw2⟩
  have hB2 : Below w.heap.size w w2 := by
    rw [hw2]
    exact (((((unhide HB).alloc (by simp; omega) _).alloc (by simp; omega) _).alloc (by simp; omega) _).alloc (by simp; omega) _).setCell (Nat.le_succ _) _
  have hN : Blk w2 (w.heap.size + 1) [.pointer (some ⟨b, 0, none⟩)] := by
    rw [hw2]
    exact (((((unhide N2).old _ (by simp)).old _ (by simp)).old _ (by simp)).old _ (by simp)).set 0 _ (by simp)
  have hM : Blk w2 w.heap.size [.int .i64 0, .int .i64 0] := by
    obtain ⟨W, hW⟩ : ∃ W, W = (w.alloc (.cells #[.int .i64 0, .int .i64 0] 45)).alloc (.cells #[.pointer none] 153) := ⟨_, rfl⟩
    have hz : W.heap.size = w.heap.size + 2 := by rw [hW]; simp
    have hb1 := unhide N1
    rw [← hW] at hw2 hb1
    rw [hw2]
    exact hb1.below (n := w.heap.size + 1) ((((((Below.refl (w.heap.size + 1) W).alloc (by omega) _).alloc (by simp; omega) _).alloc (by simp; omega) _).alloc (by simp; omega) _).setCell (p := ⟨w.heap.size + 1, 0, none⟩) (Nat.le_refl _) _) (by omega)
  have c0 := hN.cellAt (i := 0) rfl
  have e0 := (hB2.cell (p := ⟨b, 0, none⟩) hb).trans (unhide H0)
  have e1 := (hB2.cell (p := ⟨b, 1, none⟩) hb).trans (unhide H1)
  have HB2 := hide hB2
  have n1 := hM.cellAt (i := 0) rfl
  have n2 := hM.cellAt (i := 1) rfl
  have f1 := hM.2 0
  have f2 := hM.2 1
  have HM := hide hM
  clear hw2 hB2 hN hM
  go_wp2
  have hn := ((unhide HM).set 0 (.int .i64 c) (by simp)).set 1 (.int .i64 p) (by simp)
  have hFB := ((unhide HB2).setCell (p := ⟨w.heap.size, 0, none⟩) (Nat.le_refl _) (.int .i64 c)).setCell (p := ⟨w.heap.size, 1, none⟩) (Nat.le_refl _) (.int .i64 p)
  obtain ⟨F, hF⟩ : ∃ F, F = (w2.setCell ⟨w.heap.size, 0, none⟩ (.int .i64 c)).setCell ⟨w.heap.size, 1, none⟩ (.int .i64 p) := ⟨_, rfl⟩
  rw [← hF] at hn hFB ⊢
  have g0 := hn.cellAt (i := 0) rfl
  have g1 := hn.cellAt (i := 1) rfl
  exact bodyPost_ret (v := .agg #[.int .i64 c, .int .i64 p]) (by simp [results, Tryz.results38, go_sem, g0, g1]) rfl ⟨rfl, hFB⟩

def eqI (l m : List Int) : Bool := decide (l = m)

set_option maxHeartbeats 2000000 in
theorem equalInts_any (lo lo' : Nat) (a a2 : Option Addr) (cap cap2 : Nat) (ws hs : List Int) (w : World) (h : IsInts w lo w.heap.size a ws) (h2 : IsInts w lo' w.heap.size a2 hs) (hl : ws.length ≤ 1048576) :
    Calls Tryz.prog 123 #[.slice a ws.length cap, .slice a2 hs.length cap2] w fun r w' => r = .returned (.bool (eqI ws hs)) ∧ Below w.heap.size w w' := by
  have HW := hide h
  have HV := hide h2
  clear h h2
  by_cases hlen : ws.length = hs.length
  · have hq : ((ws.length : Int) != (hs.length : Int)) = false := by rw [hlen]; simp
    have HLEN := hide hlen
    clear hlen
    go_enter Tryz.func123, Tryz.ntmps123
    go_wp2
    go_loopw [5, 13] (fun _ i wr => ∃ k n : Nat, k ≤ ws.length ∧ i = .int .i64 k ∧ wr = w.drewN n ∧ Hid (∀ j (h1 : j < ws.length) (h2 : j < hs.length), j < k → ws[j] = hs[j])) (fun _ i _ => ws.length - (intOf i).toNat)
    case atStart => exact ⟨0, 0, Nat.zero_le _, rfl, rfl, hide (fun j _ _ hj => absurd hj (Nat.not_lt_zero _))⟩
    case round =>
      obtain ⟨k, n, hk, rfl, rfl, HN⟩ := hrel
      by_cases hp : k < ws.length
      · have hp2 : k < hs.length := by have := unhide HLEN; omega
        rcases unhide HW with h | ⟨b, off, rfl, hbl, hb, hc⟩
        · rw [h] at hp; simp at hp
        rcases unhide HV with h | ⟨b2, off2, rfl, hbl2, hb2, hc2⟩
        · rw [h] at hp2; simp at hp2
        have hck := hc k hp
        have hck2 := hc2 k hp2
        by_cases he : ws[k] = hs[k]
        · have HNX : Hid (∀ j (h1 : j < ws.length) (h2 : j < hs.length), j < k + 1 → ws[j] = hs[j]) := hide (fun j h1 h2 hj => by
            by_cases e : j = k
            · subst e; exact he
            · exact unhide HN j h1 h2 (by omega))
          rw [← he] at hck2
          obtain ⟨x, hx⟩ : ∃ x, ws[k]'hp = x := ⟨_, rfl⟩
          rw [hx] at hck hck2
          have hxx : (x != x) = false := by simp
          clear hc hc2 hx he
          go_wp2
          go_quiet (fail)
          go_wp2
          go_roundw
          case rel => exact ⟨k + 1, _, by omega, by go_num, by first | rfl | exact drewN_drewN _ _ _, HNX⟩
          case measure => simp [intOf]; omega
        · have HE := hide (show eqI ws hs = false from decide_eq_false (fun e => he (by subst e; rfl)))
          have hxx : (ws[k] != hs[k]) = true := by simpa using he
          obtain ⟨x, hx⟩ : ∃ x, ws[k]'hp = x := ⟨_, rfl⟩
          obtain ⟨y, hy⟩ : ∃ y, hs[k]'hp2 = y := ⟨_, rfl⟩
          rw [hx] at hck
          rw [hy] at hck2
          rw [hx, hy] at hxx
          clear hc hc2 hx hy he
          go_wp2
          go_quiet (fail)
          go_wp2
          go_ret
          exact ⟨ret_bool (unhide HE).symm, below_drewN (below_drewN (Below.refl _ _) _) _⟩
      · have HE := hide (show eqI ws hs = true from decide_eq_true (List.ext_getElem (unhide HLEN) (fun j h1 h2 => unhide HN j h1 h2 (by omega))))
        go_wp2
        go_ret
        exact ⟨ret_bool (unhide HE).symm, below_drewN (Below.refl _ _) _⟩
  · have hq : ((ws.length : Int) != (hs.length : Int)) = true := bne_iff_ne.2 (by omega)
    have HE := hide (show eqI ws hs = false from decide_eq_false (fun e => hlen (by rw [e])))
    clear hlen
    go_enter Tryz.func123, Tryz.ntmps123
    go_wp2
    go_ret
    exact ⟨ret_bool (unhide HE).symm, Below.refl _ _⟩
end Go.Proofs.YtgmohnbjfemebaaGreatDoor

namespace Go.Proofs.YtgmohnbjfemebaaGreatDoor
open Go.RowKit Go.PlainAid

/-- What a rule answers: the type, or the fault as an error. -/
def IsRes (w : World) (n : Nat) (v : Value) (R : Int × Int) (place : Int) : Prop :=
  (R.2 = 0 ∧ v = .tuple #[.int .i64 R.1, .nilIface]) ∨ (R.2 ≠ 0 ∧ ∃ e : Value, v = .tuple #[.int .i64 0, e] ∧ IsErr w n e R.2 place)
def fitT (parts wanted : List Int) (t : Int) : Int × Int := if eqI parts wanted then (t, 0) else (0, 4)
def variableT (l : List TA) (nm : ByteArray) : Int × Int := if (findV l nm).2 then ((findV l nm).1, 0) else (0, 2)

set_option maxHeartbeats 2000000 in
theorem fit_any (C lo lo' : Nat) (a a2 : Option Addr) (cap cap2 : Nat) (ws hs : List Int) (t place : Int) (w : World) (hC : C < w.heap.size) (hc : w.cell? ⟨C, 5, none⟩ = some (.int .i64 place)) (h : IsInts w lo w.heap.size a ws) (h2 : IsInts w lo' w.heap.size a2 hs) (hl : ws.length ≤ 1048576) :
    Calls Tryz.prog 93 #[.pointer (some ⟨C, 0, none⟩), .slice a ws.length cap, .slice a2 hs.length cap2, .int .i64 t] w fun r w' => ∃ v : Value, r = .returned v ∧ IsRes w' w'.heap.size v (fitT ws hs t) place ∧ Below w.heap.size w w' := by
  have HC := hide hc
  have HW := hide h
  have HV := hide h2
  clear hc h h2
  go_enter Tryz.func93, Tryz.ntmps93
  go_wp2_with fail
  refine (equalInts_any lo lo' _ _ _ _ ws hs _ (unhide HW) (unhide HV) hl).mono ?_
  rintro r w2 ⟨rfl, hb⟩
  have HB := hide hb
  clear hb
  obtain ⟨B, hB⟩ : ∃ B, eqI ws hs = B := ⟨_, rfl⟩
  rw [hB]
  have HF : Hid (fitT ws hs t = if B then (t, 0) else (0, 4)) := hide (by unfold fitT; rw [hB])
  clear hB
  cases B with
  | true =>
    go_wp2
    go_ret2
    refine ⟨_, rfl, ?_, unhide HB⟩
    rw [unhide HF]
    exact Or.inl ⟨rfl, rfl⟩
  | false =>
    go_wp2_with fail
    refine (fault_any C 4 place _ (((unhide HB).cell (p := ⟨C, 5, none⟩) hC).trans (unhide HC))).mono ?_
    rintro r w3 ⟨v, rfl, he, hb3⟩
    have HE := hide he
    have HB3 := hide ((unhide HB).trans (hb3.mono (unhide HB).size))
    clear he hb3
    go_wp2
    go_ret2
    refine ⟨_, rfl, ?_, unhide HB3⟩
    rw [unhide HF]
    exact Or.inr ⟨by simp, _, rfl, unhide HE⟩

set_option maxHeartbeats 2000000 in
theorem num_any (c x0 x1 x2 x3 x4 v p : Value) (w : World) :
    Calls Tryz.prog 70 #[c, .agg #[x0, x1, x2, x3, x4], v, p] w fun r w' => r = .returned (.tuple #[.int .i64 1, .nilIface]) ∧ Below w.heap.size w w' := by
  go_enter Tryz.func70, Tryz.ntmps70
  go_wp2
  go_ret2
  exact ⟨rfl, (Below.refl _ _).alloc (Nat.le_refl _) _⟩
set_option maxHeartbeats 2000000 in
theorem flag_any (c x0 x1 x2 x3 x4 v p : Value) (w : World) :
    Calls Tryz.prog 71 #[c, .agg #[x0, x1, x2, x3, x4], v, p] w fun r w' => r = .returned (.tuple #[.int .i64 2, .nilIface]) ∧ Below w.heap.size w w' := by
  go_enter Tryz.func71, Tryz.ntmps71
  go_wp2
  go_ret2
  exact ⟨rfl, (Below.refl _ _).alloc (Nat.le_refl _) _⟩

set_option maxHeartbeats 2000000 in
theorem variable_any (C : Nat) (x0 x1 x3 x4 pv ps : Value) (nm : ByteArray) (l : List TA) (place : Int) (w : World) (hC : C < w.heap.size) (hc : w.cell? ⟨C, 5, none⟩ = some (.int .i64 place)) (h : IsV w w.heap.size pv l) :
    Calls Tryz.prog 72 #[.pointer (some ⟨C, 0, none⟩), .agg #[x0, x1, .string nm, x3, x4], pv, ps] w fun r w' => ∃ v : Value, r = .returned v ∧ IsRes w' w'.heap.size v (variableT l nm) place ∧ Below w.heap.size w w' := by
  have HC := hide hc
  have HW := hide h
  clear hc h
  go_enter Tryz.func72, Tryz.ntmps72
  go_wp2_with fail
  have HB := hide ((Below.refl w.heap.size w).alloc (Nat.le_refl _) (.cells #[x0, x1, .string nm, x3, x4] 31))
  refine (findV_any _ l nm _ ((unhide HW).kept (unhide HB) (by simp))).mono ?_
  rintro r w2 ⟨rfl, rfl⟩
  obtain ⟨R, hR⟩ : ∃ R, findV l nm = R := ⟨_, rfl⟩
  rw [hR]
  have HF : Hid (variableT l nm = if R.2 then (R.1, 0) else (0, 2)) := hide (by unfold variableT; rw [hR])
  clear hR
  obtain ⟨t, B⟩ := R
  dsimp only at HF ⊢
  cases B with
  | true =>
    go_wp2
    go_ret2
    refine ⟨_, rfl, ?_, unhide HB⟩
    rw [unhide HF]
    exact Or.inl ⟨rfl, rfl⟩
  | false =>
    go_wp2_with fail
    refine (fault_any C 2 place _ (((unhide HB).cell (p := ⟨C, 5, none⟩) hC).trans (unhide HC))).mono ?_
    rintro r w3 ⟨v, rfl, he, hb3⟩
    have HE := hide he
    have HB3 := hide ((unhide HB).trans (hb3.mono (unhide HB).size))
    clear he hb3
    go_wp2
    go_ret2
    refine ⟨_, rfl, ?_, unhide HB3⟩
    rw [unhide HF]
    exact Or.inr ⟨by simp, _, rfl, unhide HE⟩
end Go.Proofs.YtgmohnbjfemebaaGreatDoor

namespace Go.Proofs.YtgmohnbjfemebaaGreatDoor
open Go.RowKit Go.PlainAid

set_option maxHeartbeats 2000000 in
theorem prim_any (C lo : Nat) (x0 x1 x3 x4 pv : Value) (nm : ByteArray) (a : Option Addr) (cap : Nat) (ws : List Int) (place : Int) (w : World) (hC : C < w.heap.size) (hc : w.cell? ⟨C, 5, none⟩ = some (.int .i64 place)) (h : IsInts w lo w.heap.size a ws) (hl : ws.length ≤ 1048576) :
    Calls Tryz.prog 73 #[.pointer (some ⟨C, 0, none⟩), .agg #[x0, x1, .string nm, x3, x4], pv, .slice a ws.length cap] w fun r w' => ∃ v : Value, r = .returned v ∧ IsRes w' w'.heap.size v (fitT ws (tpArgs (primN nm.toList)) (tpRes (primN nm.toList))) place ∧ Below w.heap.size w w' := by
  have HC := hide hc
  have HW := hide h
  obtain ⟨n, hn⟩ : ∃ n, primN nm.toList = n := ⟨_, rfl⟩
  rw [hn]
  have HP := hide (TypePrimI_any nm)
  rw [hn] at HP
  clear hc h hn
  go_enter Tryz.func73, Tryz.ntmps73
  go_wp2_with fail
  have HB := hide ((Below.refl w.heap.size w).alloc (Nat.le_refl _) (.cells #[x0, x1, .string nm, x3, x4] 31))
  refine (unhide HP _).mono ?_
  rintro r w2 ⟨v, rfl, ho, hb⟩
  have HB2 := hide ((unhide HB).trans (hb.mono (unhide HB).size))
  obtain ⟨a2, cap2, rfl, hi⟩ := ho.ints
  have HI := hide hi
  clear hi ho hb HB
  go_wp2_with fail
  refine (fit_any C _ _ a a2 cap cap2 ws (tpArgs n) (tpRes n) place _ (Nat.lt_of_lt_of_le hC (unhide HB2).size) (((unhide HB2).cell (p := ⟨C, 5, none⟩) hC).trans (unhide HC)) ((unhide HW).kept (unhide HB2) (unhide HB2).size) (unhide HI) hl).mono ?_
  rintro r w3 ⟨v, rfl, hr, hb3⟩
  have HB3 := hide ((unhide HB2).trans (hb3.mono (unhide HB2).size))
  clear hb3
  rcases hr with ⟨q, rfl⟩ | ⟨q, e, rfl, he⟩
  · have HR := hide q
    clear q
    go_wp2
    go_ret2
    exact ⟨_, rfl, Or.inl ⟨unhide HR, rfl⟩, unhide HB3⟩
  · have HR := hide q
    have HE := hide he
    clear q he
    go_wp2
    go_ret2
    exact ⟨_, rfl, Or.inr ⟨unhide HR, _, rfl, unhide HE⟩, unhide HB3⟩

set_option maxHeartbeats 2000000 in
theorem let_any (lo : Nat) (c x0 x1 x2 x3 x4 pv : Value) (a : Option Addr) (cap : Nat) (s t : Int) (w : World) (h : IsInts w lo w.heap.size a [s, t]) :
    Calls Tryz.prog 75 #[c, .agg #[x0, x1, x2, x3, x4], pv, .slice a 2 cap] w fun r w' => r = .returned (.tuple #[.int .i64 t, .nilIface]) ∧ Below w.heap.size w w' := by
  rcases h with h | ⟨b, off, rfl, _, hbn, hc⟩
  · cases h
  have hk := hc 1 (by simp)
  have hk2 := (((Below.refl w.heap.size w).alloc (Nat.le_refl _) (.cells #[x0, x1, x2, x3, x4] 31)).cell (p := ⟨b, off + 1, none⟩) hbn).trans hk
  clear hc hk
  go_enter Tryz.func75, Tryz.ntmps75
  go_wp2
  go_ret2
  exact ⟨rfl, (Below.refl _ _).alloc (Nat.le_refl _) _⟩

set_option maxHeartbeats 2000000 in
theorem choice_any (C lo : Nat) (x0 x1 x2 x3 x4 pv : Value) (a : Option Addr) (cap : Nat) (ws : List Int) (t place : Int) (w : World) (hC : C < w.heap.size) (hc : w.cell? ⟨C, 5, none⟩ = some (.int .i64 place)) (h : IsInts w lo w.heap.size a ws) (hl : ws.length ≤ 1048576) (hk : 1 < ws.length) (ht : ws[1]'hk = t) :
    Calls Tryz.prog 74 #[.pointer (some ⟨C, 0, none⟩), .agg #[x0, x1, x2, x3, x4], pv, .slice a ws.length cap] w fun r w' => ∃ v : Value, r = .returned v ∧ IsRes w' w'.heap.size v (fitT ws [2, t, t] t) place ∧ Below w.heap.size w w' := by
  have HC := hide hc
  have HW := hide h
  clear hc
  rcases h with h | ⟨b, off, rfl, _, hbn, hcs⟩
  · rw [h] at hk; simp at hk
  have HB := hide ((Below.refl w.heap.size w).alloc (Nat.le_refl _) (.cells #[x0, x1, x2, x3, x4] 31))
  have hk2 := ((unhide HB).cell (p := ⟨b, off + 1, none⟩) hbn).trans (hcs 1 hk)
  rw [ht] at hk2
  clear hcs ht
  go_enter Tryz.func74, Tryz.ntmps74
  go_wp2_with fail
  have n1 := Blk.new (w.alloc (.cells #[x0, x1, x2, x3, x4] 31)) [.int .i64 2, .int .i64 t, .int .i64 t] 3
  rw [show (w.alloc (.cells #[x0, x1, x2, x3, x4] 31)).heap.size = w.heap.size + 1 from by simp] at n1
  have HB2 := hide ((unhide HB).alloc (by simp) (.cells #[.int .i64 2, .int .i64 t, .int .i64 t] 3))
  have HZ : Hid (((w.alloc (.cells #[x0, x1, x2, x3, x4] 31)).alloc (.cells #[.int .i64 2, .int .i64 t, .int .i64 t] 3)).heap.size = w.heap.size + 2) := hide (by simp)
  obtain ⟨W, hW⟩ : ∃ W, W = (w.alloc (.cells #[x0, x1, x2, x3, x4] 31)).alloc (.cells #[.int .i64 2, .int .i64 t, .int .i64 t] 3) := ⟨_, rfl⟩
  rw [← hW] at HB2 HZ n1 ⊢
  clear hW HB hk2
  have HI : Hid (IsInts W 0 W.heap.size (some ⟨w.heap.size + 1, 0, none⟩) [2, t, t]) := hide (.inr ⟨w.heap.size + 1, 0, rfl, Nat.zero_le _, by have := unhide HZ; omega, fun j hj => by
    rw [Nat.zero_add]
    refine n1.cellAt ?_
    match j, hj with
    | 0, _ => rfl
    | 1, _ => rfl
    | 2, _ => rfl⟩)
  clear n1
  refine (fit_any C lo 0 _ _ cap 3 ws [2, t, t] t place W (Nat.lt_of_lt_of_le hC (unhide HB2).size) (((unhide HB2).cell (p := ⟨C, 5, none⟩) hC).trans (unhide HC)) ((unhide HW).kept (unhide HB2) (unhide HB2).size) (unhide HI) hl).mono ?_
  rintro r w3 ⟨v, rfl, hr, hb3⟩
  have HB3 := hide ((unhide HB2).trans (hb3.mono (unhide HB2).size))
  clear hb3
  rcases hr with ⟨q, rfl⟩ | ⟨q, e, rfl, he⟩
  · have HR := hide q
    clear q
    go_wp2
    go_ret2
    exact ⟨_, rfl, Or.inl ⟨unhide HR, rfl⟩, unhide HB3⟩
  · have HR := hide q
    have HE := hide he
    clear q he
    go_wp2
    go_ret2
    exact ⟨_, rfl, Or.inr ⟨unhide HR, _, rfl, unhide HE⟩, unhide HB3⟩
end Go.Proofs.YtgmohnbjfemebaaGreatDoor

namespace Go.Proofs.YtgmohnbjfemebaaGreatDoor
open Go.RowKit Go.PlainAid

/-- What a function is known as. -/
abbrev Fnd := ByteArray → ByteArray → Option TS
def callT (o : Option TS) (parts : List Int) : Int × Int := match o with | none => (0, 2) | some s => applyT s.args s.type parts
/-- What a rule says, the types of all parts being known. -/
def ruleT (F : Fnd) (k : Int) (nm md : ByteArray) (vars : List TA) (parts : List Int) : Int × Int :=
  if k = 1 then (1, 0) else if k = 2 then (2, 0) else if k = 3 then varT vars nm
  else if k = 4 then applyT (tpArgs (primN nm.toList)) (tpRes (primN nm.toList)) parts
  else if k = 5 then applyT [2, parts.getD 1 0, parts.getD 1 0] (parts.getD 1 0) parts
  else if k = 6 then (parts.getD 1 0, 0)
  else if k = 8 then listT parts
  else callT (F md nm) parts
/-- The variables behind a part: one more in a let. -/
def nextV (b : Bool) (nm : ByteArray) (t : Int) (vars : List TA) : List TA := if b = true then vars ++ [⟨nm, t⟩] else vars
/-- The type, or 0 and a code, out of what the parts gave. -/
def endT (F : Fnd) (k : Int) (nm md : ByteArray) (R : List Int × List TA × Int) : Int × Int := if R.2.2 ≠ 0 then (0, R.2.2) else ruleT F k nm md R.2.1 R.1
mutual
/-- The type of an expression, and a code. -/
def TE.typ (F : Fnd) : TE → List TA → Int × Int
  | .node k _ nm md kids, vars => endT F k nm md (kidsT F (decide (k = 6)) nm kids vars)
/-- The types of parts, the variables behind them, and a code. -/
def kidsT (F : Fnd) (b : Bool) (nm : ByteArray) : List TE → List TA → List Int × List TA × Int
  | [], vars => ([], vars, 0)
  | e :: t, vars => if (e.typ F vars).2 ≠ 0 then ([], vars, (e.typ F vars).2)
    else ((e.typ F vars).1 :: (kidsT F b nm t (nextV b nm (e.typ F vars).1 vars)).1, (kidsT F b nm t (nextV b nm (e.typ F vars).1 vars)).2.1, (kidsT F b nm t (nextV b nm (e.typ F vars).1 vars)).2.2)
end
theorem varT_code (vars : List TA) (nm : ByteArray) : 0 ≤ (varT vars nm).2 ∧ ((varT vars nm).2 ≠ 0 → (varT vars nm).1 = 0) := by
  unfold varT
  cases vars.reverse.find? (isA nm) <;> simp
theorem applyT_code (w : List Int) (t : Int) (h : List Int) : 0 ≤ (applyT w t h).2 ∧ ((applyT w t h).2 ≠ 0 → (applyT w t h).1 = 0) := by
  unfold applyT
  split
  · simp
  · split <;> simp
theorem listT_code (h : List Int) : 0 ≤ (listT h).2 ∧ ((listT h).2 ≠ 0 → (listT h).1 = 0) := by
  unfold listT
  split <;> simp
theorem callT_code (o : Option TS) (h : List Int) : 0 ≤ (callT o h).2 ∧ ((callT o h).2 ≠ 0 → (callT o h).1 = 0) := by
  cases o with
  | none => simp [callT]
  | some s => exact applyT_code _ _ _
theorem ruleT_code (F : Fnd) (k : Int) (nm md : ByteArray) (vars : List TA) (parts : List Int) : 0 ≤ (ruleT F k nm md vars parts).2 ∧ ((ruleT F k nm md vars parts).2 ≠ 0 → (ruleT F k nm md vars parts).1 = 0) := by
  unfold ruleT
  split
  · simp
  split
  · simp
  split
  · exact varT_code _ _
  split
  · exact applyT_code _ _ _
  split
  · exact applyT_code _ _ _
  split
  · simp
  split
  · exact listT_code _
  · exact callT_code _ _
theorem endT_code {F : Fnd} {k : Int} {nm md : ByteArray} {R : List Int × List TA × Int} (h : 0 ≤ R.2.2) : 0 ≤ (endT F k nm md R).2 ∧ ((endT F k nm md R).2 ≠ 0 → (endT F k nm md R).1 = 0) := by
  unfold endT
  split
  · exact ⟨h, fun _ => rfl⟩
  · exact ruleT_code _ _ _ _ _ _
mutual
theorem typ_code (F : Fnd) : ∀ (e : TE) (vars : List TA), 0 ≤ (e.typ F vars).2 ∧ ((e.typ F vars).2 ≠ 0 → (e.typ F vars).1 = 0)
  | .node k m nm md kids, vars => by
    rw [TE.typ]
    exact endT_code (kidsT_code F _ nm kids vars)
theorem kidsT_code (F : Fnd) (b : Bool) (nm : ByteArray) : ∀ (l : List TE) (vars : List TA), 0 ≤ (kidsT F b nm l vars).2.2
  | [], vars => by rw [kidsT]; exact Int.le_refl 0
  | e :: t, vars => by
    rw [kidsT]
    split
    · exact (typ_code F e vars).1
    · exact kidsT_code F b nm t _
end
/-- What is known of the parts when k of them are done. -/
def KT (F : Fnd) (b : Bool) (nm : ByteArray) (kids : List TE) (vars0 : List TA) (k : Nat) (ps : List Int) (vs : List TA) : Prop :=
  ps.length = k ∧ kidsT F b nm kids vars0 = (ps ++ (kidsT F b nm (kids.drop k) vs).1, (kidsT F b nm (kids.drop k) vs).2.1, (kidsT F b nm (kids.drop k) vs).2.2)
theorem KT.start (F : Fnd) (b : Bool) (nm : ByteArray) (kids : List TE) (vars : List TA) : KT F b nm kids vars 0 [] vars := ⟨rfl, by simp⟩
theorem KT.bad {F : Fnd} {b : Bool} {nm : ByteArray} {kids : List TE} {vars0 vs : List TA} {k : Nat} {ps : List Int} (h : KT F b nm kids vars0 k ps vs) (hk : k < kids.length) (hc : (kids[k].typ F vs).2 ≠ 0) : kidsT F b nm kids vars0 = (ps, vs, (kids[k].typ F vs).2) := by
  have e := h.2
  rw [List.drop_eq_getElem_cons hk, kidsT, if_pos hc, List.append_nil] at e
  exact e
theorem KT.next {F : Fnd} {b : Bool} {nm : ByteArray} {kids : List TE} {vars0 vs : List TA} {k : Nat} {ps : List Int} (h : KT F b nm kids vars0 k ps vs) (hk : k < kids.length) (hc : (kids[k].typ F vs).2 = 0) : KT F b nm kids vars0 (k + 1) (ps ++ [(kids[k].typ F vs).1]) (nextV b nm (kids[k].typ F vs).1 vs) := by
  refine ⟨by simp [h.1], ?_⟩
  have e := h.2
  rw [List.drop_eq_getElem_cons hk, kidsT, if_neg (by rw [hc]; simp)] at e
  rw [e, List.append_assoc]
  rfl
theorem KT.done {F : Fnd} {b : Bool} {nm : ByteArray} {kids : List TE} {vars0 vs : List TA} {k : Nat} {ps : List Int} (h : KT F b nm kids vars0 k ps vs) (hk : kids.length ≤ k) : kidsT F b nm kids vars0 = (ps, vs, 0) := by
  have e := h.2
  rw [List.drop_of_length_le hk, kidsT, List.append_nil] at e
  exact e
theorem typ_bad {F : Fnd} {k m : Int} {nm md : ByteArray} {kids : List TE} {vars vs : List TA} {ps : List Int} {c : Int} (h : kidsT F (decide (k = 6)) nm kids vars = (ps, vs, c)) (hc : c ≠ 0) : (TE.node k m nm md kids).typ F vars = (0, c) := by
  rw [TE.typ, h]; unfold endT; rw [if_pos hc]
theorem typ_done {F : Fnd} {k m : Int} {nm md : ByteArray} {kids : List TE} {vars vs : List TA} {ps : List Int} (h : kidsT F (decide (k = 6)) nm kids vars = (ps, vs, 0)) : (TE.node k m nm md kids).typ F vars = ruleT F k nm md vs ps := by
  rw [TE.typ, h]; unfold endT; rw [if_neg (by simp)]
theorem fit_apply (parts want : List Int) (t : Int) (h : want.length = parts.length) : fitT parts want t = applyT want t parts := by
  unfold fitT applyT eqI
  by_cases e : want = parts
  · subst e; simp
  · have e2 : ¬ parts = want := fun g => e g.symm
    simp [h, e, e2]
theorem fit_list (parts : List Int) : fitT parts (List.replicate parts.length 1) 3 = listT parts := by
  unfold fitT listT eqI
  by_cases e : parts = List.replicate parts.length 1
  · rw [if_pos (by simpa using e), if_pos]
    rw [List.all_eq_true]
    intro x hx
    rw [e] at hx
    simpa using (List.mem_replicate.1 hx).2
  · rw [if_neg (by simpa using e), if_neg]
    intro h
    rw [List.all_eq_true] at h
    exact e (List.eq_replicate_iff.2 ⟨rfl, fun x hx => by simpa using h x hx⟩)
theorem variable_var (vars : List TA) (nm : ByteArray) : variableT vars.reverse nm = varT vars nm := by
  unfold variableT varT findV
  cases vars.reverse.find? (isA nm) <;> simp
theorem arity_len {n p : Nat} (h : (n : Int) = arityI p) : (tpArgs p).length = n := by
  unfold arityI at h
  unfold tpArgs
  repeat' split at h
  all_goals (repeat' split) <;> simp <;> omega
theorem node_small {k m : Int} {nm md : ByteArray} {n : Nat} (h : nodeB k m nm md n = true) : n ≤ 8 := by
  unfold nodeB at h
  split at h
  · simp at h; omega
  split at h
  · simp at h; omega
  split at h
  · simp at h; omega
  split at h
  · have h2 : (n : Int) = arityI (primN nm.toList) := by simp at h; exact h.2
    have := arity_len h2
    have := tpArgs_len (primN nm.toList)
    omega
  split at h
  · simp at h; omega
  split at h
  · simp at h; omega
  split at h
  · simp at h; omega
  split at h
  · simp at h; omega
  · cases h
theorem node_kids {k m : Int} {nm md : ByteArray} {n : Nat} (h : nodeB k m nm md n = true) : (k = 1 → n = 0) ∧ (k = 2 → n = 0) ∧ (k = 3 → n = 0) ∧ (k = 4 → (tpArgs (primN nm.toList)).length = n) ∧ (k = 5 → n = 3) ∧ (k = 6 → n = 2) ∧ (k = 1 ∨ k = 2 ∨ k = 3 ∨ k = 4 ∨ k = 5 ∨ k = 6 ∨ k = 7 ∨ k = 8) := by
  refine ⟨?_, ?_, ?_, ?_, ?_, ?_, ?_⟩
  · rintro rfl; unfold nodeB at h; simp at h; omega
  · rintro rfl; unfold nodeB at h; simp at h; omega
  · rintro rfl; unfold nodeB at h; simp at h; omega
  · rintro rfl
    unfold nodeB at h
    exact arity_len (by simp at h; exact h.2)
  · rintro rfl; unfold nodeB at h; simp at h; omega
  · rintro rfl; unfold nodeB at h; simp at h; omega
  · unfold nodeB at h
    repeat' split at h
    all_goals first | (simp_all; done) | (cases h)
end Go.Proofs.YtgmohnbjfemebaaGreatDoor

namespace Go.Proofs.YtgmohnbjfemebaaGreatDoor
open Go.RowKit Go.PlainAid

set_option maxHeartbeats 4000000 in
theorem mul64_any (n : Nat) (hn : n ≤ 8) (w : World) : Calls Tryz.prog 147 #[.int .u64 1, .int .u64 (n : Int)] w fun r w' => r = .returned (.tuple #[.int .u64 0, .int .u64 (n : Int)]) ∧ w = w' := by
  have h : n = 0 ∨ n = 1 ∨ n = 2 ∨ n = 3 ∨ n = 4 ∨ n = 5 ∨ n = 6 ∨ n = 7 ∨ n = 8 := by omega
  rcases h with rfl | rfl | rfl | rfl | rfl | rfl | rfl | rfl | rfl
  all_goals
    go_enter Tryz.func147, Tryz.ntmps147
    go_wp2
    go_ret2
    exact ⟨rfl, rfl⟩
set_option maxHeartbeats 4000000 in
theorem mul_any (n : Nat) (hn : n ≤ 8) (w : World) : Calls Tryz.prog 134 #[.int .u64 1, .int .u64 (n : Int)] w fun r w' => r = .returned (.tuple #[.int .u64 0, .int .u64 (n : Int)]) ∧ w = w' := by
  have HM := hide (mul64_any n hn w)
  go_enter Tryz.func134, Tryz.ntmps134
  go_wp2_with fail
  refine (unhide HM).mono ?_
  rintro r w2 ⟨rfl, rfl⟩
  go_wp2
  go_ret2
  exact ⟨rfl, rfl⟩
theorem sizeI : (Tryz.prog.info? 3).map (·.size) = some 1 := by kernel_rfl
theorem splice_ones {cur : List Value} {k m : Nat} (h : ∀ j, j < k → cur[j]? = some (.int .i64 1)) (hk : k + m ≤ cur.length) : ∀ j, j < k + m → (splice cur k (List.replicate m (.int .i64 1)))[j]? = some (.int .i64 1) := fun j hj => by
  unfold splice
  have hl : (cur.take k).length = k := by rw [List.length_take]; omega
  by_cases e : j < k
  · rw [List.getElem?_append_left (by omega), List.getElem?_take_of_lt e]
    exact h j e
  · rw [List.getElem?_append_right (by omega), hl, List.getElem?_append_left (by simp; omega), List.getElem?_replicate, if_pos (by omega)]

theorem copy_first (M : Array Value) (n b0 : Nat) (w : World) (hM : M.size = n) (hn : 0 < n) (hb0 : b0 < w.heap.size) (hc : w.cell? ⟨b0, 0, none⟩ = some (.int .i64 1)) :
    ∃ w4, (Builtin.copy_ #[79, 79] 3 #[.slice (some ⟨w.heap.size, 0, none⟩) n n, .slice (some ⟨b0, 0, none⟩) 1 1]).run Tryz.prog (w.alloc (.cells M 3)) = .ok (.int .i64 1) w4 ∧ w4.heap[w.heap.size]? = some (.cells (splice M.toList 0 [.int .i64 1]).toArray 3 (0, 0)) ∧ Below w.heap.size w w4 := by
  have hg : (w.alloc (.cells M 3)).heap[w.heap.size]? = some (.cells M 3 (0, 0)) := heap_alloc_new w _
  have hr := run_copy_row (P := Tryz.prog) (w.alloc (.cells M 3)) 79 79 3 3 w.heap.size 0 n n ⟨b0, 0, none⟩ 1 1 M 3 [.int .i64 1] Tryz.underlying79 sizeI hg (Nat.min_eq_left hn).symm (fun j v hv => by
      cases j with
      | zero =>
        rw [Addr.add_lit]
        exact (((Below.refl w.heap.size w).alloc (Nat.le_refl _) (.cells M 3)).cell (p := ⟨b0, 0, none⟩) hb0).trans (hc.trans (by simpa using hv))
      | succ j => simp at hv) (by simp; omega) (by simp [Value.oneCell'])
  exact ⟨_, hr, setRow_heap _ _ _ _ _ _ hg, below_setRow ((Below.refl _ w).alloc (Nat.le_refl _) _) (Nat.le_refl _) _⟩
theorem copy_more (cur : List Value) (n k q B : Nat) (W : World) (hg : W.heap[B]? = some (.cells cur.toArray 3 (0, 0))) (hL : cur.length = n) (hkn : k ≤ n) (hq : Nat.min k (n - k) = q) (hqk : q ≤ k) (hqn : q ≤ n - k) (hO : ∀ j, j < k → cur[j]? = some (.int .i64 1)) :
    ∃ w5, (Builtin.copy_ #[79, 79] 3 #[.slice (some ⟨B, k, none⟩) (n - k) (n - k), .slice (some ⟨B, 0, none⟩) k n]).run Tryz.prog W = .ok (.int .i64 (q : Int)) w5 ∧ w5.heap[B]? = some (.cells (splice cur k (List.replicate q (.int .i64 1))).toArray 3 (0, 0)) ∧ Below B W w5 := by
  have hr := run_copy_row (P := Tryz.prog) W 79 79 3 3 B k (n - k) (n - k) ⟨B, 0, none⟩ k n cur.toArray 3 (List.replicate q (.int .i64 1)) Tryz.underlying79 sizeI hg (by rw [List.length_replicate]; exact hq.symm) (fun j v hv => by
      rw [List.getElem?_replicate] at hv
      by_cases g : j < q
      · rw [if_pos g] at hv
        cases hv
        rw [Addr.add_lit, Nat.zero_add]
        refine (cell_of_row _ _ _ _ _ _ hg).trans ?_
        simpa using hO j (by omega)
      · rw [if_neg g] at hv; cases hv) (by rw [List.length_replicate]; simp; omega) (fun v hv => by rw [(List.mem_replicate.1 hv).2]; rfl)
  refine ⟨_, ?_, setRow_heap _ _ _ _ _ _ hg, below_setRow (Below.refl _ _) (Nat.le_refl _) _⟩
  rw [hr]
  simp [goInt, splice]
set_option maxRecDepth 100000 in
set_option maxHeartbeats 4000000 in
theorem repeat_any (b0 : Nat) (n : Nat) (hn : n ≤ 8) (w : World) (hb0 : b0 < w.heap.size) (hc : w.cell? ⟨b0, 0, none⟩ = some (.int .i64 1)) :
    Calls Tryz.prog 110 #[.slice (some ⟨b0, 0, none⟩) 1 1, .int .i64 (n : Int)] w fun r w' => ∃ (a : Option Addr) (cap : Nat), r = .returned (.slice a n cap) ∧ IsInts w' w.heap.size w'.heap.size a (List.replicate n 1) ∧ Below w.heap.size w w' := by
  obtain ⟨M, hM, hmk⟩ := make_ints n (by omega)
  have HMUL := hide (mul_any n hn w)
  have hw1 : IntKind.u64.wrap (n : Int) = (n : Int) := by rw [IntKind.wrap_u64]; omega
  have hw2 : IntKind.i64.wrap (n : Int) = (n : Int) := by rw [IntKind.wrap_i64]; omega
  have hu := Tryz.underlying79
  have hs := sizeI
  by_cases h0 : n = 0
  · subst h0
    have hmk0 : ∀ W : World, (Instr.makeSlice 79 (.int .i64 0) (.int .i64 0)).run Tryz.prog W = .ok (.slice (some ⟨W.heap.size, 0, none⟩) 0 0) (W.alloc (.cells M 3)) := hmk
    have hcp0 : ∀ W : World, (Builtin.copy_ #[79, 79] 3 #[.slice (some ⟨w.heap.size, 0, none⟩) 0 0, .slice (some ⟨b0, 0, none⟩) 1 1]).run Tryz.prog W = .ok (.int .i64 0) W := fun W => run_copy_none (P := Tryz.prog) W _ _ _ _ _ _ _ _ _ _ Tryz.underlying79 sizeI rfl
    go_enter Tryz.func110, Tryz.ntmps110
    go_wp2_with fail
    refine (unhide HMUL).mono ?_
    rintro r w2 ⟨rfl, rfl⟩
    go_wp2
    go_loopw [8] (fun i wr => i = .int .i64 0 ∧ wr = w.alloc (.cells M 3)) (fun _ _ => 0)
    case atStart => exact ⟨rfl, rfl⟩
    case round =>
      obtain ⟨rfl, rfl⟩ := hrel
      go_wp2
      go_ret
      exact ⟨_, _, rfl, .inl rfl, (Below.refl _ _).alloc (Nat.le_refl _) _⟩
  · have hnp : 0 < n := by omega
    obtain ⟨w4, hcp, hg4, hb4⟩ := copy_first M n b0 w hM hnp hb0 hc
    have HML : Hid (M.toList.length = n) := hide (by simpa using hM)
    have HG4 := hide hg4
    have HB4 := hide hb4
    clear hM hc hg4 hb4
    go_enter Tryz.func110, Tryz.ntmps110
    go_wp2_with fail
    refine (unhide HMUL).mono ?_
    rintro r w2 ⟨rfl, rfl⟩
    go_wp2
    clear hcp hmk
    go_loopw [8] (fun i wr => ∃ (k : Nat) (cur : List Value), 0 < k ∧ k ≤ n ∧ i = .int .i64 k ∧ Hid (cur.length = n) ∧ Hid (wr.heap[w.heap.size]? = some (.cells cur.toArray 3 (0, 0))) ∧ Hid (∀ j, j < k → cur[j]? = some (.int .i64 1)) ∧ Hid (Below w.heap.size w wr)) (fun i _ => n - (intOf i).toNat)
    case atStart =>
      refine ⟨1, splice M.toList 0 [.int .i64 1], by omega, hnp, rfl, hide (by rw [length_splice _ _ _ (by rw [unhide HML]; simp; omega), unhide HML]), HG4, hide (fun j hj => ?_), HB4⟩
      exact splice_ones (m := 1) (fun j hj => absurd hj (Nat.not_lt_zero _)) (by rw [unhide HML]; omega) j (by omega)
    case round =>
      obtain ⟨k, cur, hk0, hk, rfl, HL, HG, HO, HB⟩ := hrel
      by_cases hp : k < n
      · have hkz : (0 : Int) ≤ (k : Int) := by omega
        have hkn : (k : Int) ≤ (n : Int) := by omega
        have hw3 : IntKind.i64.wrap ((k : Int) + ((Nat.min k (n - k) : Nat) : Int)) = ((k + Nat.min k (n - k) : Nat) : Int) := by
          have : Nat.min k (n - k) ≤ n := Nat.le_trans (Nat.min_le_left _ _) (by omega)
          rw [IntKind.wrap_i64]; omega
        obtain ⟨q, hq⟩ : ∃ q, Nat.min k (n - k) = q := ⟨_, rfl⟩
        have hq0 : 0 < q ∧ q ≤ k ∧ q ≤ n - k := by subst hq; exact ⟨Nat.lt_min.2 ⟨hk0, by omega⟩, Nat.min_le_left _ _, Nat.min_le_right _ _⟩
        rw [hq] at hw3
        have HQ := hide hq
        clear hq
        go_wp2
        obtain ⟨w5, hcp, hg5, hb5⟩ := copy_more cur n k q w.heap.size wr.drew (unhide HG) (unhide HL) hk (unhide HQ) hq0.2.1 hq0.2.2 (unhide HO)
        have HG5 := hide hg5
        have HB5 := hide ((unhide HB).drew.trans hb5)
        clear hg5 hb5
        go_region_held3 (fun _ => True) (trivial) (fail)
        all_goals
          go_wp2
          go_roundw
          case rel => exact ⟨k + q, splice cur k (List.replicate q (.int .i64 1)), by omega, by omega, by first | rfl | simp, hide (by rw [length_splice _ _ _ (by rw [List.length_replicate, unhide HL]; omega), unhide HL]), HG5, hide (splice_ones (unhide HO) (by rw [unhide HL]; omega)), HB5⟩
          case measure => simp [intOf]; omega
      · have hkk : k = n := by omega
        subst hkk
        go_wp2
        go_ret
        refine ⟨_, _, rfl, .inr ⟨w.heap.size, 0, rfl, Nat.le_refl _, ?_, fun j hj => ?_⟩, unhide HB⟩
        · rcases Nat.lt_or_ge w.heap.size wr.heap.size with h | h
          · exact h
          · have := unhide HG; rw [Array.getElem?_eq_none h] at this; cases this
        · rw [List.length_replicate] at hj
          rw [Nat.zero_add, cell_of_row _ _ _ _ _ _ (unhide HG), List.getElem_replicate]
          simpa using unhide HO j hj
end Go.Proofs.YtgmohnbjfemebaaGreatDoor

namespace Go.Proofs.YtgmohnbjfemebaaGreatDoor
open Go.RowKit Go.PlainAid

/-- A block that holds a module and faces. -/
def Ctx (w : World) (P : Nat) (m : TM) (ys : List TY) : Prop :=
  P < w.heap.size ∧ ∃ (c0 c1 c2 : Value) (a : Option Addr) (cap lo h lo2 : Nat), w.cell? ⟨P, 0, none⟩ = some c0 ∧ w.cell? ⟨P, 1, none⟩ = some c1 ∧ w.cell? ⟨P, 2, none⟩ = some c2 ∧ w.cell? ⟨P, 3, none⟩ = some (.slice a ys.length cap) ∧ IsMod w lo w.heap.size h (.agg #[c0, c1, c2]) m ∧ IsFaces (IsFace w lo2 w.heap.size) w lo2 w.heap.size a ys
theorem Ctx.kept {w w' : World} {P : Nat} {m : TM} {ys : List TY} (h : Ctx w P m ys) (hb : Below w.heap.size w w') : Ctx w' P m ys := by
  obtain ⟨hP, c0, c1, c2, a, cap, lo, hh, lo2, d0, d1, d2, d3, hM, hY⟩ := h
  exact ⟨Nat.lt_of_lt_of_le hP hb.size, c0, c1, c2, a, cap, lo, hh, lo2, (hb.cell (p := ⟨P, 0, none⟩) hP).trans d0, (hb.cell (p := ⟨P, 1, none⟩) hP).trans d1, (hb.cell (p := ⟨P, 2, none⟩) hP).trans d2, (hb.cell (p := ⟨P, 3, none⟩) hP).trans d3, IsMod.kept hh hb hb.size _ _ hM, hY.kept hb hb.size⟩
/-- What TypeFind wants of a module and faces. -/
def Fits (m : TM) (ys : List TY) : Prop := (∀ f ∈ m.funs, f.args.length ≤ 1048576 ∧ f.name.size ≤ 1048576) ∧ ys.length ≤ maxLen ∧ ∀ y ∈ ys, ∀ s ∈ y.sigs, s.args.length ≤ 1048576 ∧ s.name.size ≤ 1048576
/-- The contract of spec's expr, at trees of a height. -/
def ExprS (P : Nat) (m : TM) (ys : List TY) (h : Nat) : Prop := ∀ (lo lo2 : Nat) (v : Value) (e : TE) (w : World) (a : Option Addr) (cap : Nat) (vars : List TA), IsE w lo w.heap.size h v e → e.ok = true → Ctx w P m ys → IsArgs (IsArg w lo2 w.heap.size) w lo2 w.heap.size a vars → vars.length + e.deep ≤ 1100000 →
  Calls Tryz.prog 41 #[.pointer (some ⟨P, 0, none⟩), .slice a vars.length cap, v] w fun r w' => r = .returned (.tuple #[.int .i64 (e.typ (findSig m ys) vars).1, .int .i64 (e.typ (findSig m ys) vars).2]) ∧ Below w.heap.size w w'
theorem ok_at {kids : List TE} (h : okL kids = true) {k : Nat} (hk : k < kids.length) : kids[k].ok = true := by
  rw [okL_all, List.all_eq_true] at h
  exact h _ (List.getElem_mem hk)

set_option maxHeartbeats 4000000 in
theorem kidsS_of (P : Nat) (m : TM) (ys : List TY) (h : Nat) (IH : ExprS P m ys h) (lo lo2 : Nat) (kd mm : Int) (nm md : ByteArray) (kids : List TE) (x : Value) (w : World) (a : Option Addr) (cap : Nat) (vars : List TA)
    (hE : IsE w lo w.heap.size (h + 1) x (.node kd mm nm md kids)) (hok : okL kids = true) (hn : kids.length ≤ 8) (hC : Ctx w P m ys) (hV : IsArgs (IsArg w lo2 w.heap.size) w lo2 w.heap.size a vars) (hd : vars.length + deepL kids ≤ 1100000) :
    Calls Tryz.prog 86 #[.pointer (some ⟨P, 0, none⟩), .slice a vars.length cap, x] w fun r w' => ∃ (a' : Option Addr) (L cap' : Nat), r = .returned (.tuple #[.slice a' L cap', .int .i64 (kidsT (findSig m ys) false nm kids vars).2.2]) ∧ ((kidsT (findSig m ys) false nm kids vars).2.2 = 0 → L = (kidsT (findSig m ys) false nm kids vars).1.length ∧ IsInts w' w.heap.size w'.heap.size a' (kidsT (findSig m ys) false nm kids vars).1) ∧ Below w.heap.size w w' := by
  obtain ⟨i0, hi, hz0, hz1, hz2⟩ := info_parts intinfo
  obtain ⟨ka, kc, rfl, hz, hk⟩ := hE
  have hzk := hz.2.2
  unfold maxLen at hzk
  have HK := hide hk
  have HC := hide hC
  have HV := hide hV
  have HOK := hide hok
  have HD := hide hd
  have HIH := hide IH
  obtain ⟨W, hW⟩ : ∃ W, W = w.alloc (.cells #[.int .i64 kd, .int .i64 mm, .string nm, .string md, .slice ka kids.length kc] 31) := ⟨_, rfl⟩
  have HBW : Hid (Below w.heap.size w W) := hide (by rw [hW]; exact (Below.refl _ _).alloc (Nat.le_refl _) _)
  have HWS : Hid (W.heap.size = w.heap.size + 1) := hide (by rw [hW]; simp)
  have HN1 : Hid (W.cell? ⟨w.heap.size, 4, none⟩ = some (.slice ka kids.length kc)) := hide (by rw [hW, alloc_cell]; rfl)
  clear hk hC hV hok hd IH hz
  obtain ⟨R, hR⟩ : ∃ R, kidsT (findSig m ys) false nm kids vars = R := ⟨_, rfl⟩
  rw [hR]
  have HR := hide hR
  clear hR
  go_enter Tryz.func86, Tryz.ntmps86
  go_wp2
  rw [← hW]
  clear hW
  go_loopw [8, 9, 10, 11] (fun v i _ _ wr => ∃ (k : Nat) (ps : List Int) (vs : Option Addr) (cp : Nat), k ≤ kids.length ∧ i = .int .i64 k ∧ v = .slice vs k cp ∧ Hid (wr.ownsRow W.heap.size 3 1 (.slice vs k cp) k (ps.map (Value.int .i64))) ∧ Hid (KT (findSig m ys) false nm kids vars k ps vars) ∧ Hid (Below W.heap.size W wr)) (fun _ i _ _ _ => kids.length - (intOf i).toNat)
  case atStart => exact ⟨0, [], _, _, Nat.zero_le _, rfl, rfl, hide (by rw [← unhide HWS]; exact World.ownsRow_lit W #[] 0 (Nat.le_refl _) (Nat.zero_le _) rfl), hide (KT.start _ _ _ _ _), hide ((Below.refl _ W).alloc (Nat.le_refl _) _)⟩
  case round =>
    obtain ⟨k, ps, vs, cp, hk, rfl, rfl, HROW, HKT, HB⟩ := hrel
    have c4 : wr.cell? ⟨w.heap.size, 4, none⟩ = some (.slice ka kids.length kc) := ((unhide HB).cell (p := ⟨w.heap.size, 4, none⟩) (by show _ < _; rw [unhide HWS]; exact Nat.lt_succ_self _)).trans (unhide HN1)
    have HWR : Hid (Below w.heap.size w wr) := hide ((unhide HBW).trans ((unhide HB).mono (by rw [unhide HWS]; exact Nat.le_succ _)))
    by_cases hp : k < kids.length
    · rcases (unhide HK).kept (unhide HWR) (unhide HWR).size with hq | ⟨b, off, rfl, hbl, hbn, hcs⟩
      · rw [hq] at hp; simp at hp
      obtain ⟨c0, c1, c2, c3, c5, d0, d1, d2, d3, d4, hr⟩ := hcs k hp
      have hdk := deep_at kids k hp
      have HCALL := hide (unhide HIH lo lo2 _ _ wr a cap vars hr (ok_at (unhide HOK) hp) ((unhide HC).kept (unhide HWR)) ((unhide HV).kept (unhide HWR) (unhide HWR).size) (by have := unhide HD; omega))
      have hcode := typ_code (findSig m ys) kids[k] vars
      have HBAD := hide (fun hc => (unhide HR).symm.trans ((unhide HKT).bad hp hc))
      have HNEXT := hide (fun hc => (unhide HKT).next hp hc)
      obtain ⟨Tt, hT⟩ : ∃ Tt, kids[k].typ (findSig m ys) vars = Tt := ⟨_, rfl⟩
      rw [hT] at HCALL hcode HBAD HNEXT
      obtain ⟨t, c⟩ := Tt
      dsimp only at HCALL hcode HBAD HNEXT
      clear hcs hr hT hdk
      go_wp2_with fail
      refine (unhide HCALL).mono ?_
      rintro r w2 ⟨rfl, hb2⟩
      have HB2 := hide ((unhide HB).trans (hb2.mono (unhide HB).size))
      have HROW2 := hide (own_keptN (unhide HROW) hb2)
      clear hb2 HROW HB HCALL d0 d1 d2 d3 d4 c4
      by_cases hc : c = 0
      · subst hc
        have HK3 := hide (unhide HNEXT rfl)
        clear HBAD HNEXT
        go_wp2_with (at_builtin; refine wpList_append_own _ rfl _ _ 79 rfl W.heap.size 3 i0 (.int .i64 0) 1 8 Tryz.underlying79 hi hz0 hz1 hz2 rfl (by decide) _ _ _ rfl ((unhide HROW2).alloc _) ⟨w2.heap.size, 0, none⟩ 1 1 [.int .i64 t] rfl rfl (one_newN w2 (.int .i64 t) 3) (by simp [Value.oneCell']) (by unfold maxLen; omega) (by omega) (by have := (unhide HB2).size; simp; omega) ?_; intro v2 w3 hown2 hgrow2 _; obtain ⟨vs2, cp2, rfl⟩ := own_sliceN hown2; have HB3 := hide ((unhide HB2).trans (((Below.refl _ w2).alloc (unhide HB2).size (.cells #[.int .i64 t] 3)).grown hgrow2 (by have := (unhide HB2).size; simp; omega) (fun q hq => (((unhide HROW2).lt q hq)).1))); have HO3 := hide hown2; clear hown2 hgrow2)
        go_roundw
        case rel =>
          refine ⟨k + 1, ps ++ [t], _, _, by omega, by go_num, rfl, hide ?_, HK3, HB3⟩
          rw [List.map_append]
          exact unhide HO3
        case measure => simp [intOf]; omega
      · have hcp : 0 < c := by have := hcode.1; omega
        have HX := hide (unhide HBAD hc)
        clear HBAD HNEXT hcode
        go_wp2
        go_ret2
        refine ⟨none, 0, 0, ?_, ?_, (unhide HBW).trans ((unhide HB2).mono (by rw [unhide HWS]; exact Nat.le_succ _))⟩
        · rw [unhide HX]
          rfl
        · intro h0
          rw [unhide HX] at h0
          exact absurd h0 hc
    · have HX := hide ((unhide HR).symm.trans ((unhide HKT).done (by omega)))
      have hkk : k = kids.length := by omega
      have hl := (unhide HKT).1
      have HOI := hide (own_of_row (unhide HROW)).ints
      clear hkk
      go_wp2
      go_ret2
      obtain ⟨a', cap', e, hI⟩ := unhide HOI
      cases e
      refine ⟨vs, ps.length, cp, ?_, ?_, unhide HWR⟩
      · rw [unhide HX]
        first | rfl | (simp; done)
      · intro _
        rw [unhide HX]
        exact ⟨rfl, hI.same (fun _ _ _ => rfl) (by rw [unhide HWS]; exact Nat.le_succ _) (Nat.le_refl _)⟩
end Go.Proofs.YtgmohnbjfemebaaGreatDoor
