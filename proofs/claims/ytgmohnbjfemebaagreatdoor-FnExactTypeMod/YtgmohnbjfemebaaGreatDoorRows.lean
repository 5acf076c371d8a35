/-
  NARROWER THAN 'FOR EVERY INPUT', by the rows' own cells (each row's printed sentence says how): FnTypeOne: laid · FnTypeFace: laid · FnTypeLet: laid · FnExactTypeExpr: loops, laid · FnExactTypeMod: loops, laid.
  DERIVED. THE GIVEN ROWS OF THIS SEAT. 5 by the template 'for every input the law returns true; each argument reads behind the call as it read before'; 0 by the template 'total and deterministic' (their statements: YtgmohnbjfemebaaGreatDoorTotals.lean).
  GIVEN WITH THE SEED: the statements are not yours to turn. If you find one false, say at which input.
  Laid BY PROGRAM, IN A SANDBOX (cutbox-rows.mjs): the forced cells as the released guide's own fill.sh prints them over the translation ccc15473559b7090… (all of the seat's roots in one cut). By AI agents, Wed Nov 11 2026. No macro, syntax, notation, axiom, sorry.
-/
import Derived.Test.YtgmohnbjfemebaaGreatDoorChecked
import GoSem.Claim
import GoSem.ClaimJoined
import GoSem.ClaimMapViews
import Derived.JoinedTies
import Derived.KernelRfl
namespace Go.Proofs.YtgmohnbjfemebaaGreatDoor
/- THE CELL 'sum', in the pinned program and in every row, IS THE sha256 OF THE DUMP (.gsa) THAT YtgmohnbjfemebaaGreatDoorProg.lean LOADS. Nothing in Lean hashes anything: it is a label: what it is worth is what the hold of that sum in a sandbox is worth. -/
noncomputable def Tryz.pinned : Pinned := { name := "ytgmohnbjfemebaagreatdoor", sum := "ccc15473559b7090777e0be4746b0f85f4f7d40f7265d925890f02dc01c45401", checked := Tryz.checked }
namespace Rows
def none {H : Type} : Left H := { results := [], args := [] }

/- WHAT THE LISTED PACKAGE-LEVEL VARIABLES READ AS WHEN THE CALL BEGINS. Each datum BY PROGRAM (the guide's laid-datum.mjs) off the statement by which the dump's own 'gosem.cut.vars' lays the variable. In a bare row this is a premise. The card (YtgmohnbjfemebaaGreatDoorCards.lean) ties it to the program's text. -/
def laid_errors_errorType {H : Type} : DataW H := .iface "internal/reflectlite.rtype" (.agg [.ptr (.lit (.string [101, 114, 114, 111, 114]))])

/-- 'laws.FnTypeOne': WHATEVER THE INPUT: true; the input reads as it did. -/
def fnTypeOneSpec : ChangeSpec := { name := "fnTypeOne", fn := fun _ => fun
  | [d] => { results := [.lit (.bool true)], args := [d] }
  | _ => none }
def fnTypeOneRow : OpenClaim := { program := "ytgmohnbjfemebaagreatdoor", sum := "ccc15473559b7090777e0be4746b0f85f4f7d40f7265d925890f02dc01c45401", func := "loop.example/smithy/laws.FnTypeOne", spec := "fnTypeOne", inPlace := ["internal/reflectlite.ValueOf", "(internal/reflectlite.Value).Type", "(internal/reflectlite.Value).IsNil", "internal/reflectlite.TypeOf", "(internal/reflectlite.Value).Elem", "(internal/reflectlite.Value).Set"], unfollowed := true, recurses := true, named := ["errors.errorType"], apart := false, laid := [("errors.errorType", laid_errors_errorType)] }
def FnTypeOneSaid : Prop := fnTypeOneRow.holds Tryz.pinned (OpenSpec.ofChange fnTypeOneSpec)

/-- ITS FALSE NEIGHBOUR: 'it returns false'. Refute it at one input. -/
def fnTypeOneWrong : ChangeSpec := { name := "fnTypeOne", fn := fun _ => fun
  | [d] => { results := [.lit (.bool false)], args := [d] }
  | _ => none }
def FnTypeOneWrongFalsely : Prop := fnTypeOneRow.holds Tryz.pinned (OpenSpec.ofChange fnTypeOneWrong)

/-- 'laws.FnTypeFace': WHATEVER THE INPUT: true; the input reads as it did. -/
def fnTypeFaceSpec : ChangeSpec := { name := "fnTypeFace", fn := fun _ => fun
  | [d] => { results := [.lit (.bool true)], args := [d] }
  | _ => none }
def fnTypeFaceRow : OpenClaim := { program := "ytgmohnbjfemebaagreatdoor", sum := "ccc15473559b7090777e0be4746b0f85f4f7d40f7265d925890f02dc01c45401", func := "loop.example/smithy/laws.FnTypeFace", spec := "fnTypeFace", inPlace := ["internal/reflectlite.ValueOf", "(internal/reflectlite.Value).Type", "(internal/reflectlite.Value).IsNil", "internal/reflectlite.TypeOf", "(internal/reflectlite.Value).Elem", "(internal/reflectlite.Value).Set"], unfollowed := true, recurses := true, named := ["errors.errorType"], apart := false, laid := [("errors.errorType", laid_errors_errorType)] }
def FnTypeFaceSaid : Prop := fnTypeFaceRow.holds Tryz.pinned (OpenSpec.ofChange fnTypeFaceSpec)

/-- ITS FALSE NEIGHBOUR: 'it returns false'. Refute it at one input. -/
def fnTypeFaceWrong : ChangeSpec := { name := "fnTypeFace", fn := fun _ => fun
  | [d] => { results := [.lit (.bool false)], args := [d] }
  | _ => none }
def FnTypeFaceWrongFalsely : Prop := fnTypeFaceRow.holds Tryz.pinned (OpenSpec.ofChange fnTypeFaceWrong)

/-- 'laws.FnTypeLet': WHATEVER THE INPUT: true; the input reads as it did. -/
def fnTypeLetSpec : ChangeSpec := { name := "fnTypeLet", fn := fun _ => fun
  | [d] => { results := [.lit (.bool true)], args := [d] }
  | _ => none }
def fnTypeLetRow : OpenClaim := { program := "ytgmohnbjfemebaagreatdoor", sum := "ccc15473559b7090777e0be4746b0f85f4f7d40f7265d925890f02dc01c45401", func := "loop.example/smithy/laws.FnTypeLet", spec := "fnTypeLet", inPlace := ["internal/reflectlite.ValueOf", "(internal/reflectlite.Value).Type", "(internal/reflectlite.Value).IsNil", "internal/reflectlite.TypeOf", "(internal/reflectlite.Value).Elem", "(internal/reflectlite.Value).Set"], unfollowed := true, recurses := true, named := ["errors.errorType"], apart := false, laid := [("errors.errorType", laid_errors_errorType)] }
def FnTypeLetSaid : Prop := fnTypeLetRow.holds Tryz.pinned (OpenSpec.ofChange fnTypeLetSpec)

/-- ITS FALSE NEIGHBOUR: 'it returns false'. Refute it at one input. -/
def fnTypeLetWrong : ChangeSpec := { name := "fnTypeLet", fn := fun _ => fun
  | [d] => { results := [.lit (.bool false)], args := [d] }
  | _ => none }
def FnTypeLetWrongFalsely : Prop := fnTypeLetRow.holds Tryz.pinned (OpenSpec.ofChange fnTypeLetWrong)

/-- 'laws.FnExactTypeExpr': WHATEVER THE INPUT: true; the input reads as it did. -/
def fnExactTypeExprSpec : ChangeSpec := { name := "fnExactTypeExpr", fn := fun _ => fun
  | [d1, d2, d3, d4] => { results := [.lit (.bool true)], args := [d1, d2, d3, d4] }
  | _ => none }
def fnExactTypeExprRow : OpenClaim := { program := "ytgmohnbjfemebaagreatdoor", sum := "ccc15473559b7090777e0be4746b0f85f4f7d40f7265d925890f02dc01c45401", func := "loop.example/smithy/laws.FnExactTypeExpr", spec := "fnExactTypeExpr", inPlace := ["internal/reflectlite.ValueOf", "(internal/reflectlite.Value).Type", "(internal/reflectlite.Value).IsNil", "internal/reflectlite.TypeOf", "(internal/reflectlite.Value).Elem", "(internal/reflectlite.Value).Set"], unfollowed := true, recurses := true, named := ["errors.errorType"], loops := true, apart := false, laid := [("errors.errorType", laid_errors_errorType)] }
def FnExactTypeExprSaid : Prop := fnExactTypeExprRow.holds Tryz.pinned (OpenSpec.ofChange fnExactTypeExprSpec)

/-- ITS FALSE NEIGHBOUR: 'it returns false'. Refute it at one input. -/
def fnExactTypeExprWrong : ChangeSpec := { name := "fnExactTypeExpr", fn := fun _ => fun
  | [d1, d2, d3, d4] => { results := [.lit (.bool false)], args := [d1, d2, d3, d4] }
  | _ => none }
def FnExactTypeExprWrongFalsely : Prop := fnExactTypeExprRow.holds Tryz.pinned (OpenSpec.ofChange fnExactTypeExprWrong)

/-- 'laws.FnExactTypeMod': WHATEVER THE INPUT: true; the input reads as it did. -/
def fnExactTypeModSpec : ChangeSpec := { name := "fnExactTypeMod", fn := fun _ => fun
  | [d1, d2] => { results := [.lit (.bool true)], args := [d1, d2] }
  | _ => none }
def fnExactTypeModRow : OpenClaim := { program := "ytgmohnbjfemebaagreatdoor", sum := "ccc15473559b7090777e0be4746b0f85f4f7d40f7265d925890f02dc01c45401", func := "loop.example/smithy/laws.FnExactTypeMod", spec := "fnExactTypeMod", inPlace := ["internal/reflectlite.ValueOf", "(internal/reflectlite.Value).Type", "(internal/reflectlite.Value).IsNil", "internal/reflectlite.TypeOf", "(internal/reflectlite.Value).Elem", "(internal/reflectlite.Value).Set"], unfollowed := true, recurses := true, named := ["errors.errorType"], loops := true, apart := false, laid := [("errors.errorType", laid_errors_errorType)] }
def FnExactTypeModSaid : Prop := fnExactTypeModRow.holds Tryz.pinned (OpenSpec.ofChange fnExactTypeModSpec)

/-- ITS FALSE NEIGHBOUR: 'it returns false'. Refute it at one input. -/
def fnExactTypeModWrong : ChangeSpec := { name := "fnExactTypeMod", fn := fun _ => fun
  | [d1, d2] => { results := [.lit (.bool false)], args := [d1, d2] }
  | _ => none }
def FnExactTypeModWrongFalsely : Prop := fnExactTypeModRow.holds Tryz.pinned (OpenSpec.ofChange fnExactTypeModWrong)

/- THE SECOND FORM. 'bulk': how many values and letters a reading holds, each counted each time it is reached (what is shared counts as often as it is met; a slice's spare places count too). A statement '..UptoSaid' is the law's where the arguments, and the package variables that the reading takes, are together of bulk at most 1048576: NARROWER than '..Said'. Prove '..Said' where nothing that the law and all that it calls make is longer than what came in: it says more and counts as full. Else prove '..UptoSaid'. A law counts once. -/
mutual
def uptoBulk {H : Type} : DataW H → Nat
  | .lit (.string bytes) => bytes.length + 1
  | .lit _ => 1
  | .nil => 1
  | .ptr d => uptoBulk d + 1
  | .slice elems spare => uptoBulkAll elems + uptoBulkAll spare + 1
  | .agg parts => uptoBulkAll parts + 1
  | .iface _ d => uptoBulk d + 1
  | .map entries => uptoBulkEntries entries + 1
  | .held _ => 1
def uptoBulkAll {H : Type} : List (DataW H) → Nat
  | [] => 0
  | d :: r => uptoBulk d + uptoBulkAll r
def uptoBulkEntries {H : Type} : List (Lit × DataW H) → Nat
  | [] => 0
  | x :: r => uptoBulkEntry x + uptoBulkEntries r
def uptoBulkEntry {H : Type} : Lit × DataW H → Nat
  | (.string bytes, d) => bytes.length + uptoBulk d + 1
  | (_, d) => uptoBulk d + 1
 end
def uptoSmall : (H : Type) → List (DataW H) → Bool := fun _ ds => decide (uptoBulkAll ds ≤ 1048576)
def OpenSpec.upto (s : _root_.Go.ChangeSpec) : _root_.Go.OpenSpec := { _root_.Go.OpenSpec.ofChange s with cond := some uptoSmall }

/-- 'laws.FnTypeOne', WHERE WHAT IT READS IS OF BULK AT MOST 1048576: true; the input reads as it did. -/
def fnTypeOneUptoRow : OpenClaim := { program := "ytgmohnbjfemebaagreatdoor", sum := "ccc15473559b7090777e0be4746b0f85f4f7d40f7265d925890f02dc01c45401", func := "loop.example/smithy/laws.FnTypeOne", spec := "fnTypeOne", inPlace := ["internal/reflectlite.ValueOf", "(internal/reflectlite.Value).Type", "(internal/reflectlite.Value).IsNil", "internal/reflectlite.TypeOf", "(internal/reflectlite.Value).Elem", "(internal/reflectlite.Value).Set"], unfollowed := true, recurses := true, named := ["errors.errorType"], apart := false, laid := [("errors.errorType", laid_errors_errorType)], narrowed := true }
def FnTypeOneUptoSaid : Prop := fnTypeOneUptoRow.holds Tryz.pinned (OpenSpec.upto fnTypeOneSpec)

/-- 'laws.FnTypeFace', WHERE WHAT IT READS IS OF BULK AT MOST 1048576: true; the input reads as it did. -/
def fnTypeFaceUptoRow : OpenClaim := { program := "ytgmohnbjfemebaagreatdoor", sum := "ccc15473559b7090777e0be4746b0f85f4f7d40f7265d925890f02dc01c45401", func := "loop.example/smithy/laws.FnTypeFace", spec := "fnTypeFace", inPlace := ["internal/reflectlite.ValueOf", "(internal/reflectlite.Value).Type", "(internal/reflectlite.Value).IsNil", "internal/reflectlite.TypeOf", "(internal/reflectlite.Value).Elem", "(internal/reflectlite.Value).Set"], unfollowed := true, recurses := true, named := ["errors.errorType"], apart := false, laid := [("errors.errorType", laid_errors_errorType)], narrowed := true }
def FnTypeFaceUptoSaid : Prop := fnTypeFaceUptoRow.holds Tryz.pinned (OpenSpec.upto fnTypeFaceSpec)

/-- 'laws.FnTypeLet', WHERE WHAT IT READS IS OF BULK AT MOST 1048576: true; the input reads as it did. -/
def fnTypeLetUptoRow : OpenClaim := { program := "ytgmohnbjfemebaagreatdoor", sum := "ccc15473559b7090777e0be4746b0f85f4f7d40f7265d925890f02dc01c45401", func := "loop.example/smithy/laws.FnTypeLet", spec := "fnTypeLet", inPlace := ["internal/reflectlite.ValueOf", "(internal/reflectlite.Value).Type", "(internal/reflectlite.Value).IsNil", "internal/reflectlite.TypeOf", "(internal/reflectlite.Value).Elem", "(internal/reflectlite.Value).Set"], unfollowed := true, recurses := true, named := ["errors.errorType"], apart := false, laid := [("errors.errorType", laid_errors_errorType)], narrowed := true }
def FnTypeLetUptoSaid : Prop := fnTypeLetUptoRow.holds Tryz.pinned (OpenSpec.upto fnTypeLetSpec)

/-- 'laws.FnExactTypeExpr', WHERE WHAT IT READS IS OF BULK AT MOST 1048576: true; the input reads as it did. -/
def fnExactTypeExprUptoRow : OpenClaim := { program := "ytgmohnbjfemebaagreatdoor", sum := "ccc15473559b7090777e0be4746b0f85f4f7d40f7265d925890f02dc01c45401", func := "loop.example/smithy/laws.FnExactTypeExpr", spec := "fnExactTypeExpr", inPlace := ["internal/reflectlite.ValueOf", "(internal/reflectlite.Value).Type", "(internal/reflectlite.Value).IsNil", "internal/reflectlite.TypeOf", "(internal/reflectlite.Value).Elem", "(internal/reflectlite.Value).Set"], unfollowed := true, recurses := true, named := ["errors.errorType"], loops := true, apart := false, laid := [("errors.errorType", laid_errors_errorType)], narrowed := true }
def FnExactTypeExprUptoSaid : Prop := fnExactTypeExprUptoRow.holds Tryz.pinned (OpenSpec.upto fnExactTypeExprSpec)

/-- 'laws.FnExactTypeMod', WHERE WHAT IT READS IS OF BULK AT MOST 1048576: true; the input reads as it did. -/
def fnExactTypeModUptoRow : OpenClaim := { program := "ytgmohnbjfemebaagreatdoor", sum := "ccc15473559b7090777e0be4746b0f85f4f7d40f7265d925890f02dc01c45401", func := "loop.example/smithy/laws.FnExactTypeMod", spec := "fnExactTypeMod", inPlace := ["internal/reflectlite.ValueOf", "(internal/reflectlite.Value).Type", "(internal/reflectlite.Value).IsNil", "internal/reflectlite.TypeOf", "(internal/reflectlite.Value).Elem", "(internal/reflectlite.Value).Set"], unfollowed := true, recurses := true, named := ["errors.errorType"], loops := true, apart := false, laid := [("errors.errorType", laid_errors_errorType)], narrowed := true }
def FnExactTypeModUptoSaid : Prop := fnExactTypeModUptoRow.holds Tryz.pinned (OpenSpec.upto fnExactTypeModSpec)

end Rows
end Go.Proofs.YtgmohnbjfemebaaGreatDoor
