/- Plain facts: what a right module is. No conditions. -/
import Derived.Test.YtgmohnbjfemebaaGreatDoorUb
import Derived.Test.YtgmohnbjfemebaaGreatDoorTr
import Derived.Test.YtgmohnbjfemebaaGreatDoorKt
namespace Go.Proofs.YtgmohnbjfemebaaGreatDoor
open Go.RowKit Go.PlainAid

def typeB (t : Int) : Bool := !((typeW t).toList == [])
def hasB (pre : List ByteArray) (x : ByteArray) : Bool := pre.any (fun y => y.toList == x.toList)
/-- All are names and no two alike, behind those of pre. -/
def namesFrom : List ByteArray → List ByteArray → Bool
  | _, [] => true
  | pre, x :: t => nameB x.data.toList && (!hasB pre x && namesFrom (pre ++ [x]) t)
def namesB (l : List ByteArray) : Bool := namesFrom [] l
theorem hasB_snoc (pre : List ByteArray) (y x : ByteArray) : hasB (pre ++ [y]) x = (hasB pre x || (y.toList == x.toList)) := by
  unfold hasB; rw [List.any_append]; simp
theorem names_at (l : List ByteArray) (k : Nat) (h : k < l.length) : namesFrom (l.take k) (l.drop k) = (nameB l[k].data.toList && (!hasB (l.take k) l[k] && namesFrom (l.take (k + 1)) (l.drop (k + 1)))) := by
  rw [List.drop_eq_getElem_cons h, namesFrom, List.take_succ_eq_append_getElem h]
theorem has_take (l : List ByteArray) (x : ByteArray) (j : Nat) (h : j < l.length) : hasB (l.take (j + 1)) x = (hasB (l.take j) x || (l[j].toList == x.toList)) := by
  rw [List.take_succ_eq_append_getElem h, hasB_snoc]
theorem has_more (l : List ByteArray) (x : ByteArray) (j k : Nat) (hk : j < k) (h : j < l.length) (he : (l[j].toList == x.toList) = true) : hasB (l.take k) x = true := by
  unfold hasB
  rw [List.any_eq_true]
  exact ⟨l[j], by rw [List.mem_take_iff_getElem]; exact ⟨j, by omega, rfl⟩, he⟩

def argsFrom : List TA → List TA → Bool
  | _, [] => true
  | pre, x :: t => nameB x.name.data.toList && (typeB x.type && (!hasB (pre.map TA.name) x.name && argsFrom (pre ++ [x]) t))
theorem args_at (l : List TA) (k : Nat) (h : k < l.length) : argsFrom (l.take k) (l.drop k) = (nameB l[k].name.data.toList && (typeB l[k].type && (!hasB ((l.take k).map TA.name) l[k].name && argsFrom (l.take (k + 1)) (l.drop (k + 1))))) := by
  rw [List.drop_eq_getElem_cons h, argsFrom, List.take_succ_eq_append_getElem h]
theorem args_eq : ∀ (l pre : List TA), argsFrom pre l = (l.all (fun x => typeB x.type) && namesFrom (pre.map TA.name) (l.map TA.name))
  | [], pre => by simp [argsFrom, namesFrom]
  | x :: t, pre => by
    rw [argsFrom, args_eq t, List.all_cons, List.map_cons, namesFrom, List.map_append]
    simp only [List.map_cons, List.map_nil]
    cases nameB x.name.data.toList <;> cases typeB x.type <;> cases hasB (pre.map TA.name) x.name <;> simp

def TF.headB (f : TF) : Bool := decide (f.args.length ≤ 4) && (typeB f.type && (f.args.all (fun x => typeB x.type) && namesB (f.args.map TA.name)))
/-- Not too large and not too deep, behind n expressions. -/
def sizeFrom : Nat → List TE → Bool
  | _, [] => true
  | n, e :: t => decide (n + e.nodes ≤ 150) && (decide (e.deep ≤ 16) && sizeFrom (n + e.nodes) t)
theorem size_at (l : List TE) (k : Nat) (h : k < l.length) : sizeFrom (nodesL (l.take k)) (l.drop k) = (decide (nodesL (l.take k) + l[k].nodes ≤ 150) && (decide (l[k].deep ≤ 16) && sizeFrom (nodesL (l.take (k + 1))) (l.drop (k + 1)))) := by
  rw [List.drop_eq_getElem_cons h, sizeFrom, nodes_step l k h]
def TM.bodies (m : TM) : List TE := m.funs.map TF.body ++ m.main
def TM.okB (m : TM) : Bool := decide (m.uses.length ≤ 4) && (decide (m.funs.length ≤ 8) && (decide (m.main.length ≤ 1) && (namesB m.uses && (sizeFrom 0 m.bodies && (m.funs.all (fun f => f.headB && f.body.ok) && (namesB (m.funs.map TF.name) && okL m.main))))))

/-- An expression is right, not too deep, and not too large behind n others. -/
def rightFrom (n : Nat) (e : TE) : Bool := decide (n + e.nodes ≤ 150) && (decide (e.deep ≤ 16) && e.ok)
def mainsFrom : Nat → List TE → Bool
  | _, [] => true
  | n, e :: t => rightFrom n e && mainsFrom (n + e.nodes) t
/-- What impl.TreeOk answers behind the functions that have been seen. -/
def lateB (uses : List ByteArray) (main : List TE) : Nat → List ByteArray → List TF → Bool
  | n, names, [] => mainsFrom n main && (namesB uses && namesB names)
  | n, names, f :: t => f.headB && (rightFrom n f.body && lateB uses main (n + f.body.nodes) (names ++ [f.name]) t)
theorem mains_eq : ∀ (l : List TE) (n : Nat), mainsFrom n l = (sizeFrom n l && okL l)
  | [], _ => rfl
  | e :: t, n => by
    rw [mainsFrom, mains_eq t, sizeFrom, okL, rightFrom]
    cases decide (n + e.nodes ≤ 150) <;> cases decide (e.deep ≤ 16) <;> cases e.ok <;> simp
theorem late_eq (uses : List ByteArray) (main : List TE) : ∀ (fs : List TF) (n : Nat) (names : List ByteArray), lateB uses main n names fs = (namesB uses && (sizeFrom n (fs.map TF.body ++ main) && (fs.all (fun f => f.headB && f.body.ok) && (namesB (names ++ fs.map TF.name) && okL main))))
  | [], n, names => by
    rw [lateB, mains_eq]
    simp only [List.map_nil, List.nil_append, List.append_nil, List.all_nil, Bool.true_and]
    cases namesB uses <;> cases sizeFrom n main <;> cases okL main <;> cases namesB names <;> rfl
  | f :: t, n, names => by
    rw [lateB, late_eq uses main t, List.map_cons, List.cons_append, sizeFrom, List.all_cons, List.map_cons, rightFrom]
    rw [List.append_assoc, List.singleton_append]
    cases namesB uses <;> cases f.headB <;> cases decide (n + f.body.nodes ≤ 150) <;> cases decide (f.body.deep ≤ 16) <;> cases f.body.ok <;> simp
theorem late_at (uses : List ByteArray) (main : List TE) (fs : List TF) (n k : Nat) (names : List ByteArray) (h : k < fs.length) : lateB uses main n names (fs.drop k) = (fs[k].headB && (rightFrom n fs[k].body && lateB uses main (n + fs[k].body.nodes) (names ++ [fs[k].name]) (fs.drop (k + 1)))) := by
  rw [List.drop_eq_getElem_cons h, lateB]
theorem mains_at (l : List TE) (n k : Nat) (h : k < l.length) : mainsFrom n (l.drop k) = (rightFrom n l[k] && mainsFrom (n + l[k].nodes) (l.drop (k + 1))) := by
  rw [List.drop_eq_getElem_cons h, mainsFrom]
theorem ok_late (m : TM) : m.okB = (decide (m.uses.length ≤ 4) && (decide (m.funs.length ≤ 8) && (decide (m.main.length ≤ 1) && lateB m.uses m.main 0 [] m.funs))) := by
  rw [late_eq, List.nil_append]; rfl
end Go.Proofs.YtgmohnbjfemebaaGreatDoor
