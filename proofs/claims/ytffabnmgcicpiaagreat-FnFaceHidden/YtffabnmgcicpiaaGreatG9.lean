/- Plain facts: what a right module is. No conditions. The walk of spec.l2Uses. Conditions: the row can be read. The walk of spec.l2Fun. Conditions: the function can be read. The walk of spec.l2Size. Conditions: the module can be read, and weighs at most 2^20. The walk of spec.TreeOk. Conditions: the module can be read, and weighs at most 2^20. -/
import Derived.Test.YtffabnmgcicpiaaGreatG1
import Derived.Test.YtffabnmgcicpiaaGreatG7
import Derived.Test.YtffabnmgcicpiaaGreatG8
import Derived.Handy
import Derived.OwnWalk
import Derived.Laws.AppendOwn
namespace Go.Proofs.YtffabnmgcicpiaaGreat
open Go.RowKit Go.PlainAid

def typeB (t : Int) : Bool := !((typeW t).toList == [])
def hasB (pre : List ByteArray) (x : ByteArray) : Bool := pre.any (fun y => y.toList == x.toList)
/-- All are names and no two alike, behind those of pre. -/
def namesFrom : List ByteArray → List ByteArray → Bool
  | _, [] => true
  | pre, x :: t => nameB x.data.toList && (!hasB pre x && namesFrom (pre ++ [x]) t)
def namesB (l : List ByteArray) : Bool := namesFrom [] l
theorem hasB_snoc (pre : List ByteArray) (y x : ByteArray) : hasB (pre ++ [y]) x = (hasB pre x || (y.toList == x.toList)) := by
  unfold hasB; rw [List.any_append]; simp
theorem names_at (l : List ByteArray) (k : Nat) (h : k < l.length) : namesFrom (l.take k) (l.drop k) = (nameB l[k].data.toList && (!hasB (l.take k) l[k] && namesFrom (l.take (k + 1)) (l.drop (k + 1)))) := by
  rw [List.drop_eq_getElem_cons h, namesFrom, List.take_succ_eq_append_getElem h]
theorem has_take (l : List ByteArray) (x : ByteArray) (j : Nat) (h : j < l.length) : hasB (l.take (j + 1)) x = (hasB (l.take j) x || (l[j].toList == x.toList)) := by
  rw [List.take_succ_eq_append_getElem h, hasB_snoc]
theorem has_more (l : List ByteArray) (x : ByteArray) (j k : Nat) (hk : j < k) (h : j < l.length) (he : (l[j].toList == x.toList) = true) : hasB (l.take k) x = true := by
  unfold hasB
  rw [List.any_eq_true]
  exact ⟨l[j], by rw [List.mem_take_iff_getElem]; exact ⟨j, by omega, rfl⟩, he⟩

def argsFrom : List TA → List TA → Bool
  | _, [] => true
  | pre, x :: t => nameB x.name.data.toList && (typeB x.type && (!hasB (pre.map TA.name) x.name && argsFrom (pre ++ [x]) t))
theorem args_at (l : List TA) (k : Nat) (h : k < l.length) : argsFrom (l.take k) (l.drop k) = (nameB l[k].name.data.toList && (typeB l[k].type && (!hasB ((l.take k).map TA.name) l[k].name && argsFrom (l.take (k + 1)) (l.drop (k + 1))))) := by
  rw [List.drop_eq_getElem_cons h, argsFrom, List.take_succ_eq_append_getElem h]
theorem args_eq : ∀ (l pre : List TA), argsFrom pre l = (l.all (fun x => typeB x.type) && namesFrom (pre.map TA.name) (l.map TA.name))
  | [], pre => by simp [argsFrom, namesFrom]
  | x :: t, pre => by
    rw [argsFrom, args_eq t, List.all_cons, List.map_cons, namesFrom, List.map_append]
    simp only [List.map_cons, List.map_nil]
    cases nameB x.name.data.toList <;> cases typeB x.type <;> cases hasB (pre.map TA.name) x.name <;> simp

def TF.headB (f : TF) : Bool := decide (f.args.length ≤ 4) && (typeB f.type && (f.args.all (fun x => typeB x.type) && namesB (f.args.map TA.name)))
/-- Not too large and not too deep, behind n expressions. -/
def sizeFrom : Nat → List TE → Bool
  | _, [] => true
  | n, e :: t => decide (n + e.nodes ≤ 150) && (decide (e.deep ≤ 16) && sizeFrom (n + e.nodes) t)
theorem size_at (l : List TE) (k : Nat) (h : k < l.length) : sizeFrom (nodesL (l.take k)) (l.drop k) = (decide (nodesL (l.take k) + l[k].nodes ≤ 150) && (decide (l[k].deep ≤ 16) && sizeFrom (nodesL (l.take (k + 1))) (l.drop (k + 1)))) := by
  rw [List.drop_eq_getElem_cons h, sizeFrom, nodes_step l k h]
def TM.bodies (m : TM) : List TE := m.funs.map TF.body ++ m.main
def TM.okB (m : TM) : Bool := decide (m.uses.length ≤ 4) && (decide (m.funs.length ≤ 8) && (decide (m.main.length ≤ 1) && (namesB m.uses && (sizeFrom 0 m.bodies && (m.funs.all (fun f => f.headB && f.body.ok) && (namesB (m.funs.map TF.name) && okL m.main))))))

/-- An expression is right, not too deep, and not too large behind n others. -/
def rightFrom (n : Nat) (e : TE) : Bool := decide (n + e.nodes ≤ 150) && (decide (e.deep ≤ 16) && e.ok)
def mainsFrom : Nat → List TE → Bool
  | _, [] => true
  | n, e :: t => rightFrom n e && mainsFrom (n + e.nodes) t
/-- What impl.TreeOk answers behind the functions that have been seen. -/
def lateB (uses : List ByteArray) (main : List TE) : Nat → List ByteArray → List TF → Bool
  | n, names, [] => mainsFrom n main && (namesB uses && namesB names)
  | n, names, f :: t => f.headB && (rightFrom n f.body && lateB uses main (n + f.body.nodes) (names ++ [f.name]) t)
theorem mains_eq : ∀ (l : List TE) (n : Nat), mainsFrom n l = (sizeFrom n l && okL l)
  | [], _ => rfl
  | e :: t, n => by
    rw [mainsFrom, mains_eq t, sizeFrom, okL, rightFrom]
    cases decide (n + e.nodes ≤ 150) <;> cases decide (e.deep ≤ 16) <;> cases e.ok <;> simp
theorem late_eq (uses : List ByteArray) (main : List TE) : ∀ (fs : List TF) (n : Nat) (names : List ByteArray), lateB uses main n names fs = (namesB uses && (sizeFrom n (fs.map TF.body ++ main) && (fs.all (fun f => f.headB && f.body.ok) && (namesB (names ++ fs.map TF.name) && okL main))))
  | [], n, names => by
    rw [lateB, mains_eq]
    simp only [List.map_nil, List.nil_append, List.append_nil, List.all_nil, Bool.true_and]
    cases namesB uses <;> cases sizeFrom n main <;> cases okL main <;> cases namesB names <;> rfl
  | f :: t, n, names => by
    rw [lateB, late_eq uses main t, List.map_cons, List.cons_append, sizeFrom, List.all_cons, List.map_cons, rightFrom]
    rw [List.append_assoc, List.singleton_append]
    cases namesB uses <;> cases f.headB <;> cases decide (n + f.body.nodes ≤ 150) <;> cases decide (f.body.deep ≤ 16) <;> cases f.body.ok <;> simp
theorem late_at (uses : List ByteArray) (main : List TE) (fs : List TF) (n k : Nat) (names : List ByteArray) (h : k < fs.length) : lateB uses main n names (fs.drop k) = (fs[k].headB && (rightFrom n fs[k].body && lateB uses main (n + fs[k].body.nodes) (names ++ [fs[k].name]) (fs.drop (k + 1)))) := by
  rw [List.drop_eq_getElem_cons h, lateB]
theorem mains_at (l : List TE) (n k : Nat) (h : k < l.length) : mainsFrom n (l.drop k) = (rightFrom n l[k] && mainsFrom (n + l[k].nodes) (l.drop (k + 1))) := by
  rw [List.drop_eq_getElem_cons h, mainsFrom]
theorem ok_late (m : TM) : m.okB = (decide (m.uses.length ≤ 4) && (decide (m.funs.length ≤ 8) && (decide (m.main.length ≤ 1) && lateB m.uses m.main 0 [] m.funs))) := by
  rw [late_eq, List.nil_append]; rfl
end Go.Proofs.YtffabnmgcicpiaaGreat

namespace Go.Proofs.YtffabnmgcicpiaaGreat
open Go.RowKit Go.PlainAid

set_option maxHeartbeats 1000000 in
theorem l2Uses_any (lo : Nat) (a : Option Addr) (cap : Nat) (ws : List ByteArray) (w : World) (h : IsWds w lo w.heap.size a ws) (hl : ws.length ≤ maxLen) :
    Calls Tryz.prog 16 #[.slice a ws.length cap] w fun r w' => r = .returned (.bool (namesB ws)) ∧ Below w.heap.size w w' := by
  unfold maxLen at hl
  have HW := hide h
  clear h
  go_enter Tryz.func16, Tryz.ntmps16
  go_wp2
  go_loopw [3] (fun i wr => ∃ k : Nat, k ≤ ws.length ∧ i = .int .i64 k ∧ Hid (namesB ws = namesFrom (ws.take k) (ws.drop k)) ∧ Hid (Below w.heap.size w wr)) (fun i _ => ws.length - (intOf i).toNat)
  case atStart => exact ⟨0, Nat.zero_le _, rfl, hide rfl, hide (Below.refl _ _)⟩
  case round =>
    obtain ⟨k, hk, rfl, HN, HB⟩ := hrel
    by_cases hp : k < ws.length
    · have hna := names_at ws k hp
      rcases (unhide HW).kept (unhide HB) (unhide HB).size with hq | ⟨b, off, rfl, hbl, hbn, hc⟩
      · rw [hq] at hp; simp at hp
      have hck := hc k hp
      obtain ⟨x, hx⟩ : ∃ x, ws[k]'hp = x := ⟨_, rfl⟩
      rw [hx] at hck hna
      have HC := hide hc
      have HA := hide hna
      clear hc hx hna
      go_wp2_with fail
      refine (LexNameS_any _ _).mono ?_
      rintro r w2 ⟨rfl, hb2⟩
      have HB2 := hide ((unhide HB).trans (hb2.mono (unhide HB).size))
      have HC2 : Hid (∀ j (hj : j < ws.length), w2.cell? ⟨b, off + j, none⟩ = some (.string ws[j])) := hide (fun j hj => (hb2.cell (p := ⟨b, off + j, none⟩) hbn).trans (unhide HC j hj))
      have hck2 := (hb2.cell (p := ⟨b, off + k, none⟩) hbn).trans hck
      clear hb2 hck HC HB
      cases hn : nameB x.data.toList with
      | false =>
        have HF : Hid (namesB ws = false) := hide (by rw [unhide HN, unhide HA, hn]; rfl)
        go_wp2
        go_ret
        exact ⟨ret_bool (unhide HF).symm, unhide HB2⟩
      | true =>
        have HA2 : Hid (namesB ws = (!hasB (ws.take k) x && namesFrom (ws.take (k + 1)) (ws.drop (k + 1)))) := hide (by rw [unhide HN, unhide HA, hn]; rfl)
        clear HN HA
        go_wp2
        go_loopw [4] (fun i wr => ∃ j n : Nat, j ≤ k ∧ i = .int .i64 j ∧ Hid (hasB (ws.take j) x = false) ∧ wr = w2.drewN n) (fun i _ => k - (intOf i).toNat)
        case atStart => exact ⟨0, 0, Nat.zero_le _, rfl, hide rfl, rfl⟩
        case round =>
          obtain ⟨j, n, hj, rfl, HH, rfl⟩ := hrel
          by_cases hjk : j < k
          · have hjl : j < ws.length := by omega
            have hcj := unhide HC2 j hjl
            have hst := has_take ws x j hjl
            have hmo := has_more ws x j k hjk hjl
            obtain ⟨y, hy⟩ : ∃ y, ws[j]'hjl = y := ⟨_, rfl⟩
            rw [hy] at hcj hst hmo
            have HST := hide hst
            have HMO := hide hmo
            clear hst hmo hy
            cases he : (y.toList == x.toList) with
            | true =>
              have HF : Hid (namesB ws = false) := hide (by rw [unhide HA2, unhide HMO he]; rfl)
              go_wp2
              go_quiet (fail)
              go_wp2
              go_ret
              exact ⟨ret_bool (unhide HF).symm, below_drewN (below_drewN (unhide HB2) _) _⟩
            | false =>
              have HH2 : Hid (hasB (ws.take (j + 1)) x = false) := hide (by rw [unhide HST, unhide HH, he]; rfl)
              go_wp2
              go_quiet (fail)
              go_wp2
              go_roundw
              case rel => exact ⟨j + 1, _, by omega, by go_num, HH2, rfl⟩
              case measure => simp [intOf]; omega
          · have HN3 : Hid (namesB ws = namesFrom (ws.take (k + 1)) (ws.drop (k + 1))) := hide (by
              have e : j = k := by omega
              have := unhide HH
              rw [e] at this
              rw [unhide HA2, this]; rfl)
            go_wp2
            go_roundw
            case rel => exact ⟨k + 1, by omega, by go_num, HN3, hide (below_drewN (unhide HB2) _)⟩
            case measure => simp [intOf]; omega
    · have HF : Hid (namesB ws = true) := hide (by rw [unhide HN, List.drop_of_length_le (by omega)]; simp [namesFrom])
      go_wp2
      go_ret
      exact ⟨ret_bool (unhide HF).symm, unhide HB⟩
end Go.Proofs.YtffabnmgcicpiaaGreat

namespace Go.Proofs.YtffabnmgcicpiaaGreat
open Go.RowKit Go.PlainAid

/-- What l2Fun says. -/
def TF.allB (f : TF) : Bool := nameB f.name.data.toList && (f.headB && f.body.ok)
theorem typeB_no {t : Int} (h : typeB t = false) : ((typeW t).toList == []) = true := by unfold typeB at h; simpa using h
theorem typeB_yes {t : Int} (h : typeB t = true) : ((typeW t).toList == []) = false := by unfold typeB at h; simpa using h
theorem head_eq (f : TF) : f.headB = (decide (f.args.length ≤ 4) && (typeB f.type && argsFrom [] f.args)) := by
  rw [args_eq]; rfl

set_option maxHeartbeats 2000000 in
theorem l2Fun_any (lo h : Nat) (v : Value) (f : TF) (w : World) (hF : IsFun w lo w.heap.size h v f) :
    Calls Tryz.prog 18 #[v] w fun r w' => r = .returned (.bool f.allB) ∧ Below w.heap.size w w' := by
  have HX : Hid (f.allB = (nameB f.name.data.toList && ((decide (f.args.length ≤ 4) && (typeB f.type && argsFrom [] f.args)) && f.body.ok))) := hide (by rw [TF.allB, head_eq])
  obtain ⟨nm, pub, args, ty, body⟩ := f
  obtain ⟨aa, ca, b0, b1, b2, b3, b4, rfl, ⟨hs1, hs2⟩, ha, hE⟩ := hF
  dsimp only at hs1 hs2 ha hE HX ⊢
  generalize TF.allB _ = R at HX ⊢
  unfold maxLen at hs1 hs2
  have HA := hide ha
  have HE := hide (fun (w' : World) (hb : Below w.heap.size w w') => l2Expr_any (l2Node_any LexNameS_any) lo h _ body w' (IsE.kept hb hb.size h _ _ hE))
  clear ha hE
  go_enter Tryz.func18, Tryz.ntmps18
  go_wp2_with fail
  refine (LexNameS_any _ _).mono ?_
  rintro r w2 ⟨rfl, hb2⟩
  have hB2 : Below w.heap.size w w2 := ((Below.refl _ w).alloc (Nat.le_refl _) _).trans (hb2.mono (by simp))
  have n1 : Blk w2 w.heap.size [Value.string nm, Value.bool pub, Value.slice aa args.length ca, Value.int .i64 ty, b0, b1, b2, b3, b4] := (Blk.new w [Value.string nm, Value.bool pub, Value.slice aa args.length ca, Value.int .i64 ty, b0, b1, b2, b3, b4] 33).below hb2 (by simp)
  have hS2 : w.heap.size < w2.heap.size := by have := hb2.size; rw [alloc_size] at this; omega
  have p2 := n1.cellAt (i := 2) rfl
  have p3 := n1.cellAt (i := 3) rfl
  have N1 := hide n1
  have HB2 := hide hB2
  have HS2 := hide hS2
  clear n1 hb2 hB2 hS2
  cases hn : nameB nm.data.toList with
  | false =>
    have HR : Hid (R = false) := hide (by rw [unhide HX, hn]; rfl)
    go_wp2
    go_ret
    exact ⟨ret_bool (unhide HR).symm, unhide HB2⟩
  | true =>
    by_cases h4 : 4 < args.length
    · have HR : Hid (R = false) := hide (by rw [unhide HX, decide_eq_false (by omega)]; simp)
      go_wp2
      go_ret
      exact ⟨ret_bool (unhide HR).symm, unhide HB2⟩
    have HX1 : Hid (R = ((typeB ty && argsFrom [] args) && body.ok)) := hide (by rw [unhide HX, hn, decide_eq_true (by omega)]; simp)
    clear HX
    go_wp2_with fail
    refine (TreeTypeS_any _ _).mono ?_
    rintro r w3 ⟨rfl, hb3⟩
    have hB3 : Below w.heap.size w w3 := (unhide HB2).trans (hb3.mono (unhide HB2).size)
    have n1 := (unhide N1).below hb3 (unhide HS2)
    have hS3 : w.heap.size < w3.heap.size := by have := hb3.size; have := unhide HS2; omega
    have p2 := n1.cellAt (i := 2) rfl
    have p4 := n1.cellAt (i := 4) rfl
    have p5 := n1.cellAt (i := 5) rfl
    have p6 := n1.cellAt (i := 6) rfl
    have p7 := n1.cellAt (i := 7) rfl
    have p8 := n1.cellAt (i := 8) rfl
    have N2 := hide n1
    have HB3 := hide hB3
    have HS3 := hide hS3
    clear n1 hb3 hB3 hS3 N1 HB2 HS2
    cases ht : typeB ty with
    | false =>
      have hte := typeB_no ht
      have HR : Hid (R = false) := hide (by rw [unhide HX1, ht]; rfl)
      go_wp2
      go_ret
      exact ⟨ret_bool (unhide HR).symm, unhide HB3⟩
    | true =>
      have hte := typeB_yes ht
      have HX2 : Hid (R = (argsFrom [] args && body.ok)) := hide (by rw [unhide HX1, ht]; rfl)
      clear HX1
      go_wp2_with fail
      refine (unhide HE _ (unhide HB3)).mono ?_
      rintro r w4 ⟨rfl, hb4⟩
      have hB4 : Below w.heap.size w w4 := (unhide HB3).trans (hb4.mono (unhide HB3).size)
      have n1 := (unhide N2).below hb4 (unhide HS3)
      have hS4 : w.heap.size < w4.heap.size := by have := hb4.size; have := unhide HS3; omega
      have p2 := n1.cellAt (i := 2) rfl
      have N4 := hide n1
      have HB4 := hide hB4
      have HS4 := hide hS4
      clear n1 hb4 hB4 hS4 N2 HB3 HS3 p4 p5 p6 p7 p8 p3
      cases hbo : body.ok with
      | false =>
        have HR : Hid (R = false) := hide (by rw [unhide HX2, hbo]; simp)
        go_wp2
        go_ret
        exact ⟨ret_bool (unhide HR).symm, unhide HB4⟩
      | true =>
        have HX3 : Hid (R = argsFrom [] args) := hide (by rw [unhide HX2, hbo]; simp)
        clear HX2
        go_wp2
        clear p2
        go_loopw [3] (fun i wr => ∃ k : Nat, k ≤ args.length ∧ i = .int .i64 k ∧ Hid (R = argsFrom (args.take k) (args.drop k)) ∧ wr.cell? ⟨w.heap.size, 2, none⟩ = some (.slice aa args.length ca) ∧ Hid (w.heap.size < wr.heap.size) ∧ Hid (Below w.heap.size w wr)) (fun i _ => args.length - (intOf i).toNat)
        case atStart => exact ⟨0, Nat.zero_le _, rfl, HX3, (unhide N4).cellAt (i := 2) rfl, HS4, HB4⟩
        case round =>
          clear HX3 N4 HS4 HB4
          obtain ⟨k, hk, rfl, HN, hc, HZ, HB⟩ := hrel
          by_cases hp : k < args.length
          · have hna := args_at args k hp
            rcases (unhide HA).kept (unhide HB) (unhide HB).size with hq | ⟨b, off, rfl, hbl, hbn, hcs⟩
            · rw [hq] at hp; simp at hp
            obtain ⟨c0, c1, d0, d1, hr⟩ := hcs k hp
            obtain ⟨x, hx⟩ : ∃ x, args[k]'hp = x := ⟨_, rfl⟩
            rw [hx] at hr hna
            have hv := hr.1
            simp only [Value.agg.injEq, Array.mk.injEq, List.cons.injEq, and_true] at hv
            obtain ⟨rfl, rfl⟩ := hv
            have HCS := hide (fun j hj => hcs j hj)
            have HNA := hide hna
            clear hcs hr hx hna
            go_wp2_with fail
            refine (LexNameS_any _ _).mono ?_
            rintro r w5 ⟨rfl, hb5⟩
            have hc5 := (hb5.cell (p := ⟨w.heap.size, 2, none⟩) (unhide HZ)).trans hc
            have e0 := (hb5.cell (p := ⟨b, off + k * 2, none⟩) hbn).trans d0
            have e1 := (hb5.cell (p := ⟨b, off + k * 2 + 1, none⟩) hbn).trans d1
            have HB5 := hide ((unhide HB).trans (hb5.mono (unhide HB).size))
            have HZ5 : Hid (w.heap.size < w5.heap.size) := hide (by have := unhide HZ; have := hb5.size; omega)
            have HC5 : Hid (∀ j (hj : j < args.length), w5.cell? ⟨b, off + j * 2, none⟩ = some (.string args[j].name)) := hide (fun j hj => by
              obtain ⟨c0, c1, d0, d1, hr⟩ := unhide HCS j hj
              have hv := hr.1
              simp only [Value.agg.injEq, Array.mk.injEq, List.cons.injEq, and_true] at hv
              rw [hv.1] at d0
              exact (hb5.cell (p := ⟨b, off + j * 2, none⟩) hbn).trans d0)
            have hbn5 : b < w5.heap.size := by have := hb5.size; omega
            clear hb5 hc d0 d1 HB HZ HCS hbn
            cases hnx : nameB x.name.data.toList with
            | false =>
              have HR : Hid (R = false) := hide (by rw [unhide HN, unhide HNA, hnx]; rfl)
              go_wp2
              go_ret
              exact ⟨ret_bool (unhide HR).symm, unhide HB5⟩
            | true =>
              go_wp2_with fail
              refine (TreeTypeS_any _ _).mono ?_
              rintro r w6 ⟨rfl, hb6⟩
              have hc6 := (hb6.cell (p := ⟨w.heap.size, 2, none⟩) (unhide HZ5)).trans hc5
              have g0 := (hb6.cell (p := ⟨b, off + k * 2, none⟩) hbn5).trans e0
              have HB6 := hide ((unhide HB5).trans (hb6.mono (unhide HB5).size))
              have HZ6 : Hid (w.heap.size < w6.heap.size) := hide (by have := unhide HZ5; have := hb6.size; omega)
              have HC6 : Hid (∀ j (hj : j < args.length), w6.cell? ⟨b, off + j * 2, none⟩ = some (.string args[j].name)) := hide (fun j hj => (hb6.cell (p := ⟨b, off + j * 2, none⟩) hbn5).trans (unhide HC5 j hj))
              clear hb6 hc5 e0 e1 HB5 HZ5 HC5 hbn5
              cases htx : typeB x.type with
              | false =>
                have hte := typeB_no htx
                have HR : Hid (R = false) := hide (by rw [unhide HN, unhide HNA, hnx, htx]; rfl)
                go_wp2
                go_ret
                exact ⟨ret_bool (unhide HR).symm, unhide HB6⟩
              | true =>
                have hte := typeB_yes htx
                have HA2 : Hid (R = (!hasB ((args.take k).map TA.name) x.name && argsFrom (args.take (k + 1)) (args.drop (k + 1)))) := hide (by rw [unhide HN, unhide HNA, hnx, htx]; rfl)
                clear HN HNA
                go_wp2
                clear hte
                go_loopw [4] (fun i wr => ∃ j n : Nat, j ≤ k ∧ i = .int .i64 j ∧ Hid (hasB ((args.take j).map TA.name) x.name = false) ∧ wr = w6.drewN n) (fun i _ => k - (intOf i).toNat)
                case atStart => exact ⟨0, 0, Nat.zero_le _, rfl, hide rfl, rfl⟩
                case round =>
                  obtain ⟨j, n, hj, rfl, HH, rfl⟩ := hrel
                  by_cases hjk : j < k
                  · have hjl : j < args.length := by omega
                    have hcj := unhide HC6 j hjl
                    have hst := has_take (args.map TA.name) x.name j (by simpa using hjl)
                    have hmo := has_more (args.map TA.name) x.name j k hjk (by simpa using hjl)
                    rw [List.getElem_map] at hst hmo
                    obtain ⟨y, hy⟩ : ∃ y, (args[j]'hjl).name = y := ⟨_, rfl⟩
                    rw [hy] at hcj hst hmo
                    rw [← List.map_take, ← List.map_take] at hst
                    rw [← List.map_take] at hmo
                    have HST := hide hst
                    have HMO := hide hmo
                    clear hst hmo hy
                    cases he : (y.toList == x.name.toList) with
                    | true =>
                      have HF : Hid (R = false) := hide (by rw [unhide HA2, unhide HMO he]; rfl)
                      go_wp2
                      go_quiet (fail)
                      go_wp2
                      go_ret
                      exact ⟨ret_bool (unhide HF).symm, below_drewN (below_drewN (unhide HB6) _) _⟩
                    | false =>
                      have HH2 : Hid (hasB ((args.take (j + 1)).map TA.name) x.name = false) := hide (by rw [unhide HST, unhide HH, he]; rfl)
                      go_wp2
                      go_quiet (fail)
                      go_wp2
                      go_roundw
                      case rel => exact ⟨j + 1, _, by omega, by go_num, HH2, rfl⟩
                      case measure => simp [intOf]; omega
                  · have HN3 : Hid (R = argsFrom (args.take (k + 1)) (args.drop (k + 1))) := hide (by
                      have e : j = k := by omega
                      have := unhide HH
                      rw [e] at this
                      rw [unhide HA2, this]; rfl)
                    go_wp2
                    go_roundw
                    case rel => exact ⟨k + 1, by omega, by go_num, HN3, hc6, HZ6, hide (below_drewN (unhide HB6) _)⟩
                    case measure => simp [intOf]; omega
          · have HF : Hid (R = true) := hide (by rw [unhide HN, List.drop_of_length_le (by omega)]; simp [argsFrom])
            go_wp2
            go_ret
            exact ⟨ret_bool (unhide HF).symm, unhide HB⟩
end Go.Proofs.YtffabnmgcicpiaaGreat

namespace Go.Proofs.YtffabnmgcicpiaaGreat
open Go.RowKit Go.PlainAid

theorem wtFuns_mem {l : List TF} {f : TF} (h : f ∈ l) : f.wt ≤ wtFuns l := by
  induction l with
  | nil => simp at h
  | cons a t ih =>
    have e : wtFuns (a :: t) = a.wt + wtFuns t := by unfold wtFuns; simp
    rcases List.mem_cons.1 h with rfl | h
    · omega
    · have := ih h; omega
theorem wtL_mem : ∀ {l : List TE} {e : TE}, e ∈ l → e.wt ≤ wtL l
  | a :: t, e, h => by
    rw [wtL]
    rcases List.mem_cons.1 h with rfl | h
    · omega
    · have := wtL_mem h; omega
theorem bodies_len (m : TM) : m.bodies.length = m.funs.length + m.main.length := by unfold TM.bodies; simp
theorem bodies_fun (m : TM) (k : Nat) (h : k < m.funs.length) (h' : k < m.bodies.length) : m.bodies[k] = m.funs[k].body := by
  rw [List.getElem_of_eq (show m.bodies = m.funs.map TF.body ++ m.main from rfl) h', List.getElem_append_left (by simpa using h)]; simp
theorem bodies_main (m : TM) (k : Nat) (h : k < m.main.length) (h' : m.funs.length + k < m.bodies.length) : m.bodies[m.funs.length + k] = m.main[k] := by
  rw [List.getElem_of_eq (show m.bodies = m.funs.map TF.body ++ m.main from rfl) h', List.getElem_append_right (by simp)]; simp
theorem bodies_nodes (m : TM) (ht : m.wt ≤ 1048576) (k : Nat) (h : k < m.bodies.length) : m.bodies[k].nodes ≤ 1048577 := by
  have h1 := nodes_wt m.bodies[k]
  have h2 : m.bodies[k].wt ≤ 1048576 := by
    unfold TM.wt at ht
    by_cases hk : k < m.funs.length
    · rw [bodies_fun m k hk]
      have := wtFuns_mem (List.getElem_mem hk)
      unfold TF.wt at this
      omega
    · obtain ⟨j, rfl⟩ : ∃ j, k = m.funs.length + j := ⟨k - m.funs.length, by omega⟩
      rw [bodies_len] at h
      rw [bodies_main m j (by omega)]
      have := wtL_mem (List.getElem_mem (show j < m.main.length by omega))
      omega
  omega

set_option maxHeartbeats 2000000 in
theorem l2Size_any (lo h : Nat) (v : Value) (m : TM) (w : World) (hM : IsMod w lo w.heap.size h v m) (ht : m.wt ≤ 1048576) :
    Calls Tryz.prog 17 #[v] w fun r w' => r = .returned (.bool (sizeFrom 0 m.bodies)) ∧ Below w.heap.size w w' := by
  have hBL := bodies_len m
  have HBF := hide (bodies_fun m)
  have HBM := hide (bodies_main m)
  have HBN := hide (bodies_nodes m ht)
  have hlf : m.funs.length ≤ 1048576 := by unfold TM.wt at ht; omega
  have hlm : m.main.length ≤ 1048576 := by unfold TM.wt at ht; omega
  obtain ⟨us, fs, mn⟩ := m
  obtain ⟨a1, a2, a3, k1, k2, k3, rfl, _, _, q2, q3⟩ := hM
  dsimp only at q2 q3 hlf hlm HBF HBM hBL ⊢
  generalize TM.bodies _ = BD at hBL HBF HBM HBN ⊢
  have HQ2 := hide q2
  have HQ3 := hide q3
  have HBL := hide hBL
  clear q2 q3 ht hBL
  go_enter Tryz.func17, Tryz.ntmps17
  go_wp2
  go_loopw [3, 4] (fun nn i wr => ∃ k N : Nat, k ≤ fs.length + mn.length ∧ i = .int .i64 k ∧ nn = .int .i64 N ∧ N ≤ 150 ∧ Hid (nodesL (BD.take k) = N) ∧ Hid (sizeFrom 0 BD = sizeFrom N (BD.drop k)) ∧ wr.cell? ⟨w.heap.size, 1, none⟩ = some (.slice a2 fs.length k2) ∧ wr.cell? ⟨w.heap.size, 2, none⟩ = some (.slice a3 mn.length k3) ∧ Hid (w.heap.size < wr.heap.size) ∧ Hid (Below w.heap.size w wr)) (fun _ i _ => fs.length + mn.length - (intOf i).toNat)
  case atStart => exact ⟨0, 0, Nat.zero_le _, rfl, rfl, by omega, hide rfl, hide rfl, by simp, by simp, hide (by simp), hide ((Below.refl _ _).alloc (Nat.le_refl _) _)⟩
  case round =>
    obtain ⟨k, N, hk, rfl, rfl, hN, HNN, HS, hc1, hc2, HZ, HB⟩ := hrel
    by_cases hp : k < fs.length + mn.length
    · have hpb : k < BD.length := by have := unhide HBL; omega
      have hat := size_at BD k hpb
      rw [unhide HNN] at hat
      have hnd := nodes_step BD k hpb
      rw [unhide HNN] at hnd
      have hbn := unhide HBN k hpb
      obtain ⟨e, he⟩ : ∃ e, BD[k]'hpb = e := ⟨_, rfl⟩
      rw [he] at hat hnd hbn
      have HAT := hide hat
      have HND := hide hnd
      have hdn := deep_le e
      clear hat hnd
      have HE : Hid (∃ c0 c1 c2 c3 c4 : Value, ∃ b o : Nat, IsE wr lo wr.heap.size h (.agg #[c0, c1, c2, c3, c4]) e ∧ wr.cell? ⟨b, o, none⟩ = some c0 ∧ wr.cell? ⟨b, o + 1, none⟩ = some c1 ∧ wr.cell? ⟨b, o + 2, none⟩ = some c2 ∧ wr.cell? ⟨b, o + 3, none⟩ = some c3 ∧ wr.cell? ⟨b, o + 4, none⟩ = some c4 ∧ ((k < fs.length ∧ ∃ off, a2 = some ⟨b, off, none⟩ ∧ o = off + k * 9 + 4) ∨ (¬ k < fs.length ∧ ∃ off, a3 = some ⟨b, off, none⟩ ∧ o = off + (k - fs.length) * 5))) := hide (by
        by_cases hkf : k < fs.length
        · rcases (unhide HQ2).kept (unhide HB) (unhide HB).size with hq | ⟨b, off, rfl, hbl, hbn, hcs⟩
          · rw [hq] at hkf; simp at hkf
          obtain ⟨c0, c1, c2, c3, c4, c5, c6, c7, c8, d0, d1, d2, d3, d4, d5, d6, d7, d8, hr⟩ := hcs k hkf
          obtain ⟨aa, ca, b0, b1, b2, b3, b4, hv, _, _, hE⟩ := hr
          simp only [Value.agg.injEq, Array.mk.injEq, List.cons.injEq, and_true] at hv
          obtain ⟨-, -, -, -, rfl, rfl, rfl, rfl, rfl⟩ := hv
          rw [← unhide HBF k hkf hpb, he] at hE
          exact ⟨c4, c5, c6, c7, c8, b, off + k * 9 + 4, hE, d4, d5, d6, d7, d8, .inl ⟨hkf, off, rfl, rfl⟩⟩
        · rcases (unhide HQ3).kept (unhide HB) (unhide HB).size with hq | ⟨b, off, rfl, hbl, hbn, hcs⟩
          · rw [hq] at hp; simp at hp; omega
          have hkm : k - fs.length < mn.length := by omega
          obtain ⟨c0, c1, c2, c3, c4, d0, d1, d2, d3, d4, hr⟩ := hcs (k - fs.length) hkm
          have hkk : fs.length + (k - fs.length) = k := by omega
          have := unhide HBM (k - fs.length) hkm (by omega)
          simp only [hkk] at this
          rw [← this, he] at hr
          exact ⟨c0, c1, c2, c3, c4, b, _, hr, d0, d1, d2, d3, d4, .inr ⟨hkf, off, rfl, rfl⟩⟩)
      clear he
      obtain ⟨c0, c1, c2, c3, c4, b, o, hE, d0, d1, d2, d3, d4, hw⟩ := unhide HE
      have hbz : b < wr.heap.size := block_lt_of_cell d0
      have hzz := unhide HZ
      obtain ⟨xk, xm, xn, xd, xa, xl, xc, rfl, rfl, rfl, rfl, rfl⟩ := hE.form5
      clear HE
      have HEE := hide hE
      clear hE
      have HNX : Hid (∀ W : World, Below wr.heap.size wr W → Calls Tryz.prog 33 #[.agg #[.int .i64 xk, .int .i64 xm, .string xn, .string xd, .slice xa xl xc]] W fun r w' => r = .returned (.tuple #[.int .i64 e.nodes, .int .i64 e.deep]) ∧ Below W.heap.size W w') := hide (fun W hb => TreeNodesS_any lo h _ e W (IsE.kept hb hb.size h _ _ (unhide HEE)) hbn)
      clear HEE
      obtain ⟨E, hE⟩ : ∃ E, e.nodes = E := ⟨_, rfl⟩
      obtain ⟨F, hF⟩ : ∃ F, e.deep = F := ⟨_, rfl⟩
      rw [hE, hF] at HAT hdn
      rw [hE] at HND hbn
      simp only [hE, hF] at HNX
      have HFIN : Hid (¬ (150 < N + E) → ¬ (16 < F) → nodesL (BD.take (k + 1)) = N + E ∧ sizeFrom 0 BD = sizeFrom (N + E) (BD.drop (k + 1))) := hide (fun g1 g2 => by
        refine ⟨unhide HND, ?_⟩
        rw [unhide HS, unhide HAT, unhide HND, decide_eq_true (by omega), decide_eq_true (by omega)]; rfl)
      have HBAD : Hid ((150 < N + E) ∨ (16 < F) → sizeFrom 0 BD = false) := hide (fun g => by
        rw [unhide HS, unhide HAT]
        rcases g with g | g
        · rw [decide_eq_false (by omega)]; rfl
        · rw [decide_eq_false (p := F ≤ 16) (by omega)]; simp)
      clear HAT HND HS HNN hE hF
      rcases hw with ⟨hkf, off, rfl, rfl⟩ | ⟨hkf, off, rfl, rfl⟩
      all_goals
        go_wp2_with fail
        refine (unhide HNX _ ?hb).mono ?_
        case hb => go_grown
        rintro r w2 ⟨rfl, hb2⟩
        have hB2 : Below wr.heap.size wr w2 := Below.trans (by go_grown) (hb2.mono (by simp))
        have HB2 := hide ((unhide HB).trans (hB2.mono (unhide HB).size))
        have hc1' := (hB2.cell (p := ⟨w.heap.size, 1, none⟩) (unhide HZ)).trans hc1
        have hc2' := (hB2.cell (p := ⟨w.heap.size, 2, none⟩) (unhide HZ)).trans hc2
        have HZ2 : Hid (w.heap.size < w2.heap.size) := hide (by have := unhide HZ; have := hB2.size; omega)
        clear hb2 hB2 hc1 hc2 HB HZ d0 d1 d2 d3 d4 hzz hbz
        by_cases g1 : 150 < N + E
        · have HR := hide (unhide HBAD (.inl g1))
          go_wp2
          go_ret
          exact ⟨ret_bool (unhide HR).symm, unhide HB2⟩
        by_cases g2 : 16 < F
        · have HR := hide (unhide HBAD (.inr g2))
          go_wp2
          go_ret
          exact ⟨ret_bool (unhide HR).symm, unhide HB2⟩
        have HG := hide (unhide HFIN g1 g2)
        go_wp2
        go_roundw
        case rel => exact ⟨k + 1, N + E, by omega, by go_num, by go_num, by omega, hide (unhide HG).1, hide (unhide HG).2, hc1', hc2', HZ2, HB2⟩
        case measure => simp [intOf]; omega
    · have HF : Hid (sizeFrom 0 BD = true) := hide (by rw [unhide HS, List.drop_of_length_le (by have := unhide HBL; omega)]; rfl)
      go_wp2
      go_ret
      exact ⟨ret_bool (unhide HF).symm, unhide HB⟩
end Go.Proofs.YtffabnmgcicpiaaGreat

namespace Go.Proofs.YtffabnmgcicpiaaGreat
open Go.RowKit Go.PlainAid

theorem own_kept {W W' : World} {base e s n : Nat} {v : Value} {xs : List Value} (h : W.ownsRow base e s v n xs) (hb : Below W.heap.size W W') : W'.ownsRow base e s v n xs := by
  refine ⟨h.1, ?_⟩
  rcases h.2 with hn | ⟨g, cap, cur, hv, hg, hgb, rest⟩
  · exact .inl hn
  · exact .inr ⟨g, cap, cur, hv, hg, (hb.block g (Array.getElem?_eq_some_iff.1 hgb).1).trans hgb, rest⟩
theorem own_wds {W : World} {m k : Nat} {v : Value} {ws : List ByteArray} (h : W.ownsRow m 9 1 v k (ws.map Value.string)) (hk : k = ws.length) : ∃ (a : Option Addr) (cap : Nat), v = .slice a ws.length cap ∧ ws.length ≤ cap ∧ IsWds W m W.heap.size a ws := by
  subst hk
  rcases h.2 with ⟨hv, h0⟩ | ⟨g, cap, cur, hv, hg, hgb, hnc, _⟩
  · refine ⟨none, 0, by rw [hv, h0], by omega, .inl (List.length_eq_zero_iff.1 h0)⟩
  · refine ⟨some ⟨g, 0, none⟩, cap, hv, hnc, .inr ⟨g, 0, rfl, hg, (Array.getElem?_eq_some_iff.1 hgb).1, fun j hj => ?_⟩⟩
    subst hv
    rw [Nat.zero_add, h.cellAt j (by omega)]
    simp [hj]
theorem own_slice {W : World} {m e size k : Nat} {v : Value} {xs : List Value} (h : W.ownsRow m e size v k xs) : ∃ ao cap, v = .slice ao k cap := by
  rcases h.2 with ⟨hv, h0⟩ | ⟨g, cap, cur, hv, _⟩
  · exact ⟨none, 0, by rw [hv, h0]⟩
  · exact ⟨_, _, hv⟩
theorem own_succ {W : World} {base : Nat} {e : TypeId} {size : Nat} {v : Value} {k : Nat} {xs : List Value} (h : W.ownsRow base e size v (k + 1) xs) : ∃ g cap, v = .slice (some ⟨g, 0, none⟩) (k + 1) cap := by
  rcases h.2 with ⟨_, h0⟩ | ⟨g, cap, cur, hv, _⟩
  · omega
  · exact ⟨_, _, hv⟩
theorem own_next {W w2 : World} {base m k : Nat} {v v2 : Value} {pre : List ByteArray} {x : ByteArray} (hrow : W.ownsRow base 9 1 v k (pre.map Value.string)) (hW : base ≤ W.heap.size)
    (hown : w2.ownsRow base 9 1 v2 m (pre.map Value.string ++ [.string x])) (hgrow : (W.alloc (.cells #[.string x] 9)).grownBy w2 v.ownBlock) : w2.ownsRow base 9 1 v2 m ((pre ++ [x]).map Value.string) ∧ Below base W w2 := by
  refine ⟨by rw [List.map_append]; exact hown, (((Below.refl base W).alloc hW _)).grown hgrow (by simp; omega) (fun k e => (hrow.lt k e).1)⟩

theorem names_all : ∀ (l pre : List ByteArray), namesFrom pre l = true → l.all (fun x => nameB x.data.toList) = true
  | [], _, _ => rfl
  | x :: t, pre, h => by
    rw [namesFrom, Bool.and_eq_true, Bool.and_eq_true] at h
    rw [List.all_cons, h.1, names_all t _ h.2.2]; rfl
theorem funs_all : ∀ l : List TF, l.all TF.allB = ((l.map TF.name).all (fun x => nameB x.data.toList) && l.all (fun f => f.headB && f.body.ok))
  | [] => rfl
  | f :: t => by
    rw [List.all_cons, List.map_cons, List.all_cons, List.all_cons, funs_all t, TF.allB]
    cases nameB f.name.data.toList <;> cases (f.headB && f.body.ok) <;> simp
theorem okB_spec (m : TM) : m.okB = (decide (m.uses.length ≤ 4) && (decide (m.funs.length ≤ 8) && (decide (m.main.length ≤ 1) && (namesB m.uses && (sizeFrom 0 m.bodies && (m.funs.all TF.allB && (namesB (m.funs.map TF.name) && okL m.main))))))) := by
  rw [TM.okB, funs_all]
  cases hn : namesB (m.funs.map TF.name) with
  | false => simp
  | true =>
    rw [names_all _ _ hn]; rfl

set_option maxRecDepth 100000 in
set_option maxHeartbeats 4000000 in
theorem TreeOkS_any (lo h : Nat) (v : Value) (m : TM) (w : World) (hM : IsMod w lo w.heap.size h v m) (ht : m.wt ≤ 1048576) :
    Calls Tryz.prog 6 #[v] w fun r w' => r = .returned (.bool m.okB) ∧ Below w.heap.size w w' := by
  obtain ⟨i0, hi, hz0, hz1, hz2⟩ := info_parts wsinfo
  have HX := hide (okB_spec m)
  have HSZ := hide (fun (w' : World) (hb : Below w.heap.size w w') => l2Size_any lo h v m w' (IsMod.kept h hb hb.size v m hM) ht)
  obtain ⟨us, fs, mn⟩ := m
  obtain ⟨a1, a2, a3, k1, k2, k3, rfl, ⟨z1, z2, z3, z4, _⟩, q1, q2, q3⟩ := hM
  dsimp only at z1 z2 z3 q1 q2 q3 HX ⊢
  generalize TM.okB _ = R at HX ⊢
  generalize TM.bodies _ = BD at HX HSZ
  have HU := hide (fun (w' : World) (hb : Below w.heap.size w w') => l2Uses_any lo a1 k1 us w' (q1.kept hb hb.size) z1)
  have HQ2 := hide q2
  have HQ3 := hide q3
  unfold maxLen at z1 z2 z3
  clear q1 q2 q3 z4 ht
  by_cases g1 : 4 < us.length
  · have HR : Hid (R = false) := hide (by rw [unhide HX, decide_eq_false (by omega)]; rfl)
    go_enter Tryz.func6, Tryz.ntmps6
    go_wp2
    go_ret
    exact ⟨ret_bool (unhide HR).symm, (Below.refl _ _).alloc (Nat.le_refl _) _⟩
  by_cases g2 : 8 < fs.length
  · have HR : Hid (R = false) := hide (by rw [unhide HX, decide_eq_false (p := fs.length ≤ 8) (by omega)]; simp)
    go_enter Tryz.func6, Tryz.ntmps6
    go_wp2
    go_ret
    exact ⟨ret_bool (unhide HR).symm, (Below.refl _ _).alloc (Nat.le_refl _) _⟩
  by_cases g3 : 1 < mn.length
  · have HR : Hid (R = false) := hide (by rw [unhide HX, decide_eq_false (p := mn.length ≤ 1) (by omega)]; simp)
    go_enter Tryz.func6, Tryz.ntmps6
    go_wp2
    go_ret
    exact ⟨ret_bool (unhide HR).symm, (Below.refl _ _).alloc (Nat.le_refl _) _⟩
  have HX1 : Hid (R = (namesB us && (sizeFrom 0 BD && (fs.all TF.allB && (namesB (fs.map TF.name) && okL mn))))) := hide (by rw [unhide HX, decide_eq_true (by omega), decide_eq_true (by omega), decide_eq_true (by omega)]; rfl)
  clear HX
  go_enter Tryz.func6, Tryz.ntmps6
  go_wp2_with fail
  refine (unhide HU _ ((Below.refl _ _).alloc (Nat.le_refl _) _)).mono ?_
  rintro r w2 ⟨rfl, hb2⟩
  have hB2 : Below w.heap.size w w2 := ((Below.refl _ w).alloc (Nat.le_refl _) _).trans (hb2.mono (by simp))
  have n1 : Blk w2 w.heap.size [Value.slice a1 us.length k1, .slice a2 fs.length k2, .slice a3 mn.length k3] := (Blk.new w [Value.slice a1 us.length k1, .slice a2 fs.length k2, .slice a3 mn.length k3] 27).below hb2 (by simp)
  have hS2 : w.heap.size + 1 ≤ w2.heap.size := by have := hb2.size; rw [alloc_size] at this; omega
  have p0 := n1.cellAt (i := 0) rfl
  have p1 := n1.cellAt (i := 1) rfl
  have p2 := n1.cellAt (i := 2) rfl
  have N1 := hide n1
  have HB2 := hide hB2
  have HS2 := hide hS2
  clear n1 hb2 hB2 hS2
  cases hu : namesB us with
  | false =>
    have HR : Hid (R = false) := hide (by rw [unhide HX1, hu]; rfl)
    go_wp2
    go_ret
    exact ⟨ret_bool (unhide HR).symm, unhide HB2⟩
  | true =>
  have HX2 : Hid (R = (sizeFrom 0 BD && (fs.all TF.allB && (namesB (fs.map TF.name) && okL mn)))) := hide (by rw [unhide HX1, hu]; rfl)
  clear HX1
  go_wp2_with fail
  refine (unhide HSZ _ (unhide HB2)).mono ?_
  rintro r w3 ⟨rfl, hb3⟩
  have hB3 : Below w.heap.size w w3 := (unhide HB2).trans (hb3.mono (unhide HB2).size)
  have n1 := (unhide N1).below hb3 (by have := unhide HS2; omega)
  have hS3 : w.heap.size + 1 ≤ w3.heap.size := by have := hb3.size; have := unhide HS2; omega
  have p1 := n1.cellAt (i := 1) rfl
  have p2 := n1.cellAt (i := 2) rfl
  have N3 := hide n1
  have HB3 := hide hB3
  have HS3 := hide hS3
  clear n1 hb3 hB3 hS3 N1 HB2 HS2 p0
  cases hz : sizeFrom 0 BD with
  | false =>
    have HR : Hid (R = false) := hide (by rw [unhide HX2, hz]; rfl)
    go_wp2
    go_ret
    exact ⟨ret_bool (unhide HR).symm, unhide HB3⟩
  | true =>
  have HX3 : Hid (R = (fs.all TF.allB && (namesB (fs.map TF.name) && okL mn))) := hide (by rw [unhide HX2, hz]; rfl)
  clear HX2 HU HSZ hu hz
  go_wp2
  go_loopw [3, 4] (fun o i wr => ∃ k : Nat, k ≤ fs.length ∧ i = .int .i64 k ∧ wr.ownsRow (w.heap.size + 1) 9 1 o k (((fs.take k).map TF.name).map Value.string) ∧ Hid ((fs.take k).all TF.allB = true) ∧ wr.cell? ⟨w.heap.size, 1, none⟩ = some (.slice a2 fs.length k2) ∧ wr.cell? ⟨w.heap.size, 2, none⟩ = some (.slice a3 mn.length k3) ∧ w.heap.size + 1 ≤ wr.heap.size ∧ Hid (Below w.heap.size w wr)) (fun _ i _ => fs.length - (intOf i).toNat)
  case atStart =>
    have hs := unhide HS3
    exact ⟨0, Nat.zero_le _, rfl, World.ownsRow_lit w3 #[] 0 hs (Nat.zero_le _) rfl, hide rfl, (World.cell?_alloc_lt _ _ _ (by show w.heap.size < _; omega)).trans p1, (World.cell?_alloc_lt _ _ _ (by show w.heap.size < _; omega)).trans p2, by simp; omega, hide ((unhide HB3).alloc (by omega) _)⟩
  case round =>
    clear p1 p2 N3 HB3 HS3
    obtain ⟨k, hk, rfl, hrow, HAL, hc1, hc2, hsz, HB⟩ := hrel
    by_cases hp : k < fs.length
    · rcases (unhide HQ2) with hq | ⟨b, off, rfl, hbl, hbn, hcs⟩
      · rw [hq] at hp; simp at hp
      obtain ⟨c0, c1, c2, c3, c4, c5, c6, c7, c8, d0, d1, d2, d3, d4, d5, d6, d7, d8, hr⟩ := hcs k hp
      have htk : fs.take (k + 1) = fs.take k ++ [fs[k]] := List.take_succ_eq_append_getElem hp
      have hbad : fs[k].allB = false → fs.all TF.allB = false := fun hb => by rw [List.all_eq_false]; exact ⟨_, List.getElem_mem hp, by rw [hb]; simp⟩
      obtain ⟨f, hf⟩ : ∃ f, fs[k] = f := ⟨_, rfl⟩
      rw [hf] at hr htk hbad
      obtain ⟨aa, ca, b0, b1, b2, b3, b4, hv, hzz, haa, hE⟩ := hr
      simp only [Value.agg.injEq, Array.mk.injEq, List.cons.injEq, and_true] at hv
      obtain ⟨rfl, rfl, rfl, rfl, rfl, rfl, rfl, rfl, rfl⟩ := hv
      have HF := hide (fun (w' : World) (hb : Below w.heap.size w w') => l2Fun_any lo h _ f w' (IsFun.same h (Below.same hb) (Nat.le_refl _) hb.size _ _ ⟨aa, ca, _, _, _, _, _, rfl, hzz, haa, hE⟩))
      have hD : ∀ (W : World), Below w.heap.size w W → ∀ o v, w.cell? ⟨b, o, none⟩ = some v → W.cell? ⟨b, o, none⟩ = some v := fun W hb o v hv => (hb.cell (p := ⟨b, o, none⟩) hbn).trans hv
      have e0 := hD wr (unhide HB) _ _ d0
      have HD := hide hD
      have HTK := hide htk
      have HBAD := hide hbad
      obtain ⟨vs, cp, rfl⟩ := own_slice hrow
      have HROW := hide hrow
      have HDS := hide (⟨d0, d1, d2, d3, d4, d5, d6, d7, d8⟩ : _ ∧ _ ∧ _ ∧ _ ∧ _ ∧ _ ∧ _ ∧ _ ∧ _)
      clear hcs hf htk hbad hzz haa hE hD d0 d1 d2 d3 d4 d5 d6 d7 d8
      go_wp2_with (first | (at_builtin; refine wpList_append_own _ rfl _ _ 23 rfl (w.heap.size + 1) 9 i0 (.string ⟨#[]⟩) 1 16 Tryz.underlying23 hi hz0 hz1 hz2 rfl (by decide) _ _ _ rfl (hrow.alloc _) ⟨wr.heap.size, 0, none⟩ 1 1 [.string f.name] rfl rfl (cell_one_new _ _ _) (by simp [Value.oneCell']) (by unfold maxLen; omega) (by omega) (by simp; omega) ?_; intro v2 w2 hown2 hgrow2 _; obtain ⟨g2, cap2, rfl⟩ := own_succ hown2; obtain ⟨hown3, hbb⟩ := own_next (unhide HROW) hsz hown2 hgrow2; have hB2 := (unhide HB).trans (hbb.mono (Nat.le_succ _)); obtain ⟨d0, d1, d2, d3, d4, d5, d6, d7, d8⟩ := unhide HDS; have s0 := unhide HD w2 hB2 _ _ d0; have s1 := unhide HD w2 hB2 _ _ d1; have s2 := unhide HD w2 hB2 _ _ d2; have s3 := unhide HD w2 hB2 _ _ d3; have s4 := unhide HD w2 hB2 _ _ d4; have s5 := unhide HD w2 hB2 _ _ d5; have s6 := unhide HD w2 hB2 _ _ d6; have s7 := unhide HD w2 hB2 _ _ d7; have s8 := unhide HD w2 hB2 _ _ d8; have t1 := (hbb.cell (p := ⟨w.heap.size, 1, none⟩) (Nat.lt_succ_self _)).trans hc1; have t2 := (hbb.cell (p := ⟨w.heap.size, 2, none⟩) (Nat.lt_succ_self _)).trans hc2; have HO3 := hide hown3; have HBB := hide hbb; have HB2 := hide hB2; clear hown2 hgrow2 hown3 hbb hB2 d0 d1 d2 d3 d4 d5 d6 d7 d8 hc1 hc2 hrow e0))
      refine (unhide HF _ (unhide HB2)).mono ?_
      rintro r w3 ⟨rfl, hb3⟩
      have hrow3 := own_kept (unhide HO3) hb3
      have hz2 : w.heap.size + 1 ≤ w2.heap.size := by have := (unhide HBB).size; omega
      have u1 := (hb3.cell (p := ⟨w.heap.size, 1, none⟩) (by show w.heap.size < _; omega)).trans t1
      have u2 := (hb3.cell (p := ⟨w.heap.size, 2, none⟩) (by show w.heap.size < _; omega)).trans t2
      have hz3 : w.heap.size + 1 ≤ w3.heap.size := by have := hb3.size; omega
      have HB3 := hide ((unhide HB2).trans (hb3.mono (unhide HB2).size))
      have HR3 : Hid (w3.ownsRow (w.heap.size + 1) 9 1 (.slice (some ⟨g2, 0, none⟩) (k + 1) cap2) (k + 1) (((fs.take (k + 1)).map TF.name).map Value.string)) := hide (by rw [unhide HTK, List.map_append]; exact hrow3)
      clear hrow3 hb3 HO3 HBB HB2 t1 t2 s0 s1 s2 s3 s4 s5 s6 s7 s8 hz2
      cases hal : f.allB with
      | false =>
        have HR : Hid (R = false) := hide (by rw [unhide HX3, unhide HBAD hal]; rfl)
        go_wp2
        go_ret
        exact ⟨ret_bool (unhide HR).symm, unhide HB3⟩
      | true =>
        have HAL2 : Hid ((fs.take (k + 1)).all TF.allB = true) := hide (by rw [unhide HTK, List.all_append, unhide HAL, List.all_cons, hal]; rfl)
        go_wp2
        go_roundw
        case rel => exact ⟨k + 1, by omega, by go_num, unhide HR3, HAL2, u1, u2, hz3, HB3⟩
        case measure => simp [intOf]; omega
    · have hek : k = fs.length := by omega
      subst hek
      have HX4 : Hid (R = (namesB (fs.map TF.name) && okL mn)) := hide (by
        have := unhide HAL
        rw [List.take_of_length_le (Nat.le_refl _)] at this
        rw [unhide HX3, this]; rfl)
      rw [List.take_of_length_le (Nat.le_refl _)] at hrow
      obtain ⟨va, vc, rfl, _, hwd⟩ := own_wds hrow (by simp)
      have HWD := hide hwd
      clear hwd hrow HX3 HAL
      rw [List.length_map]
      go_wp2_with fail
      have hU := l2Uses_any (w.heap.size + 1) va vc (fs.map TF.name) wr (unhide HWD) (by rw [List.length_map]; unfold maxLen; omega)
      rw [List.length_map] at hU
      refine hU.mono ?_
      rintro r w4 ⟨rfl, hb4⟩
      have u2 := (hb4.cell (p := ⟨w.heap.size, 2, none⟩) (by show w.heap.size < _; omega)).trans hc2
      have HB4 := hide ((unhide HB).trans (hb4.mono (unhide HB).size))
      clear hU hb4 HB hc1 hc2 HWD
      cases hna : namesB (fs.map TF.name) with
      | false =>
        have HR : Hid (R = false) := hide (by rw [unhide HX4, hna]; rfl)
        go_wp2
        go_ret
        exact ⟨ret_bool (unhide HR).symm, unhide HB4⟩
      | true =>
      have HX5 : Hid (R = okL mn) := hide (by rw [unhide HX4, hna]; rfl)
      clear HX4 hna
      match mn, g3 with
      | [], _ =>
        have HR : Hid (R = true) := hide (by rw [unhide HX5]; rfl)
        go_wp2
        go_ret
        exact ⟨ret_bool (unhide HR).symm, unhide HB4⟩
      | [e], _ =>
        have HR : Hid (R = e.ok) := hide (by rw [unhide HX5, okL, okL, Bool.and_true])
        rcases (unhide HQ3).kept (unhide HB4) (unhide HB4).size with hq | ⟨b, off, rfl, hbl, hbn, hcs⟩
        · simp at hq
        obtain ⟨c0, c1, c2, c3, c4, d0, d1, d2, d3, d4, hr⟩ := hcs 0 (by simp)
        have HE := hide (l2Expr_any (l2Node_any LexNameS_any) lo h _ e w4 hr)
        rw [Nat.zero_mul, Nat.add_zero] at d0 d1 d2 d3 d4
        clear hcs hr
        go_wp2_with fail
        refine (unhide HE).mono ?_
        rintro r w5 ⟨rfl, hb5⟩
        have HB5 := hide ((unhide HB4).trans (hb5.mono (unhide HB4).size))
        clear hb5 HB4 HE d0 d1 d2 d3 d4
        go_wp2
        go_ret
        exact ⟨ret_bool (unhide HR).symm, unhide HB5⟩
end Go.Proofs.YtffabnmgcicpiaaGreat
