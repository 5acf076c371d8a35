/-
  NARROWER THAN 'FOR EVERY INPUT', by the rows' own cells (each row's printed sentence says how): FnExactTreeNodes: loops · FnExactTreeOk: loops · FnExactTreeSame: loops.
  DERIVED. THE GIVEN ROWS OF THIS SEAT. 5 by the template 'for every input the law returns true; each argument reads behind the call as it read before'; 0 by the template 'total and deterministic' (their statements: YtambkcchnmbaoaaTotals.lean).
  GIVEN WITH THE SEED: the statements are not yours to turn. If you find one false, say at which input.
  Laid BY PROGRAM, IN A SANDBOX (cutbox-rows.mjs): the forced cells as the released guide's own fill.sh prints them over the translation 7ac5677d8385a4d9… (all of the seat's roots in one cut). By AI agents, Wed Nov 11 2026. No macro, syntax, notation, axiom, sorry.
-/
import Derived.Test.YtambkcchnmbaoaaChecked
import GoSem.Claim
import GoSem.ClaimJoined
import GoSem.ClaimMapViews
import Derived.JoinedTies
import Derived.KernelRfl
namespace Go.Proofs.Ytambkcchnmbaoaa
/- THE CELL 'sum', in the pinned program and in every row, IS THE sha256 OF THE DUMP (.gsa) THAT YtambkcchnmbaoaaProg.lean LOADS. Nothing in Lean hashes anything: it is a label: what it is worth is what the hold of that sum in a sandbox is worth. -/
noncomputable def Try.pinned : Pinned := { name := "ytambkcchnmbaoaa", sum := "7ac5677d8385a4d9aec89d92fe34800cdb04ce2c3bc66e1587511505fd80b5ba", checked := Try.checked }
namespace Rows
def none {H : Type} : Left H := { results := [], args := [] }

/-- 'laws.FnExactTreeType': WHATEVER THE INPUT: true; the input reads as it did. -/
def fnExactTreeTypeSpec : ChangeSpec := { name := "fnExactTreeType", fn := fun _ => fun
  | [d] => { results := [.lit (.bool true)], args := [d] }
  | _ => none }
def fnExactTreeTypeRow : OpenClaim := { program := "ytambkcchnmbaoaa", sum := "7ac5677d8385a4d9aec89d92fe34800cdb04ce2c3bc66e1587511505fd80b5ba", func := "loop.example/smithy/laws.FnExactTreeType", spec := "fnExactTreeType", plainKeys := false, apart := false }
def FnExactTreeTypeSaid : Prop := fnExactTreeTypeRow.holds Try.pinned (OpenSpec.ofChange fnExactTreeTypeSpec)

/-- ITS FALSE NEIGHBOUR: 'it returns false'. Refute it at one input. -/
def fnExactTreeTypeWrong : ChangeSpec := { name := "fnExactTreeType", fn := fun _ => fun
  | [d] => { results := [.lit (.bool false)], args := [d] }
  | _ => none }
def FnExactTreeTypeWrongFalsely : Prop := fnExactTreeTypeRow.holds Try.pinned (OpenSpec.ofChange fnExactTreeTypeWrong)

/-- 'laws.FnExactTreeArity': WHATEVER THE INPUT: true; the input reads as it did. -/
def fnExactTreeAritySpec : ChangeSpec := { name := "fnExactTreeArity", fn := fun _ => fun
  | [d] => { results := [.lit (.bool true)], args := [d] }
  | _ => none }
def fnExactTreeArityRow : OpenClaim := { program := "ytambkcchnmbaoaa", sum := "7ac5677d8385a4d9aec89d92fe34800cdb04ce2c3bc66e1587511505fd80b5ba", func := "loop.example/smithy/laws.FnExactTreeArity", spec := "fnExactTreeArity", plainKeys := false, apart := false }
def FnExactTreeAritySaid : Prop := fnExactTreeArityRow.holds Try.pinned (OpenSpec.ofChange fnExactTreeAritySpec)

/-- ITS FALSE NEIGHBOUR: 'it returns false'. Refute it at one input. -/
def fnExactTreeArityWrong : ChangeSpec := { name := "fnExactTreeArity", fn := fun _ => fun
  | [d] => { results := [.lit (.bool false)], args := [d] }
  | _ => none }
def FnExactTreeArityWrongFalsely : Prop := fnExactTreeArityRow.holds Try.pinned (OpenSpec.ofChange fnExactTreeArityWrong)

/-- 'laws.FnExactTreeNodes': WHATEVER THE INPUT: true; the input reads as it did. -/
def fnExactTreeNodesSpec : ChangeSpec := { name := "fnExactTreeNodes", fn := fun _ => fun
  | [d] => { results := [.lit (.bool true)], args := [d] }
  | _ => none }
def fnExactTreeNodesRow : OpenClaim := { program := "ytambkcchnmbaoaa", sum := "7ac5677d8385a4d9aec89d92fe34800cdb04ce2c3bc66e1587511505fd80b5ba", func := "loop.example/smithy/laws.FnExactTreeNodes", spec := "fnExactTreeNodes", unfollowed := true, recurses := true, loops := true, plainKeys := false, apart := false }
def FnExactTreeNodesSaid : Prop := fnExactTreeNodesRow.holds Try.pinned (OpenSpec.ofChange fnExactTreeNodesSpec)

/-- ITS FALSE NEIGHBOUR: 'it returns false'. Refute it at one input. -/
def fnExactTreeNodesWrong : ChangeSpec := { name := "fnExactTreeNodes", fn := fun _ => fun
  | [d] => { results := [.lit (.bool false)], args := [d] }
  | _ => none }
def FnExactTreeNodesWrongFalsely : Prop := fnExactTreeNodesRow.holds Try.pinned (OpenSpec.ofChange fnExactTreeNodesWrong)

/-- 'laws.FnExactTreeOk': WHATEVER THE INPUT: true; the input reads as it did. -/
def fnExactTreeOkSpec : ChangeSpec := { name := "fnExactTreeOk", fn := fun _ => fun
  | [d] => { results := [.lit (.bool true)], args := [d] }
  | _ => none }
def fnExactTreeOkRow : OpenClaim := { program := "ytambkcchnmbaoaa", sum := "7ac5677d8385a4d9aec89d92fe34800cdb04ce2c3bc66e1587511505fd80b5ba", func := "loop.example/smithy/laws.FnExactTreeOk", spec := "fnExactTreeOk", unfollowed := true, recurses := true, loops := true, plainKeys := false, apart := false }
def FnExactTreeOkSaid : Prop := fnExactTreeOkRow.holds Try.pinned (OpenSpec.ofChange fnExactTreeOkSpec)

/-- ITS FALSE NEIGHBOUR: 'it returns false'. Refute it at one input. -/
def fnExactTreeOkWrong : ChangeSpec := { name := "fnExactTreeOk", fn := fun _ => fun
  | [d] => { results := [.lit (.bool false)], args := [d] }
  | _ => none }
def FnExactTreeOkWrongFalsely : Prop := fnExactTreeOkRow.holds Try.pinned (OpenSpec.ofChange fnExactTreeOkWrong)

/-- 'laws.FnExactTreeSame': WHATEVER THE INPUT: true; the input reads as it did. -/
def fnExactTreeSameSpec : ChangeSpec := { name := "fnExactTreeSame", fn := fun _ => fun
  | [d1, d2] => { results := [.lit (.bool true)], args := [d1, d2] }
  | _ => none }
def fnExactTreeSameRow : OpenClaim := { program := "ytambkcchnmbaoaa", sum := "7ac5677d8385a4d9aec89d92fe34800cdb04ce2c3bc66e1587511505fd80b5ba", func := "loop.example/smithy/laws.FnExactTreeSame", spec := "fnExactTreeSame", unfollowed := true, recurses := true, loops := true, plainKeys := false, apart := false }
def FnExactTreeSameSaid : Prop := fnExactTreeSameRow.holds Try.pinned (OpenSpec.ofChange fnExactTreeSameSpec)

/-- ITS FALSE NEIGHBOUR: 'it returns false'. Refute it at one input. -/
def fnExactTreeSameWrong : ChangeSpec := { name := "fnExactTreeSame", fn := fun _ => fun
  | [d1, d2] => { results := [.lit (.bool false)], args := [d1, d2] }
  | _ => none }
def FnExactTreeSameWrongFalsely : Prop := fnExactTreeSameRow.holds Try.pinned (OpenSpec.ofChange fnExactTreeSameWrong)

/- THE SECOND FORM. 'bulk': how many values and letters a reading holds, each counted each time it is reached (what is shared counts as often as it is met; a slice's spare places count too). A statement '..UptoSaid' is the law's where the arguments, and the package variables that the reading takes, are together of bulk at most 1048576: NARROWER than '..Said'. Prove '..Said' where nothing that the law and all that it calls make is longer than what came in: it says more and counts as full. Else prove '..UptoSaid'. A law counts once. -/
mutual
def uptoBulk {H : Type} : DataW H → Nat
  | .lit (.string bytes) => bytes.length + 1
  | .lit _ => 1
  | .nil => 1
  | .ptr d => uptoBulk d + 1
  | .slice elems spare => uptoBulkAll elems + uptoBulkAll spare + 1
  | .agg parts => uptoBulkAll parts + 1
  | .iface _ d => uptoBulk d + 1
  | .map entries => uptoBulkEntries entries + 1
  | .held _ => 1
def uptoBulkAll {H : Type} : List (DataW H) → Nat
  | [] => 0
  | d :: r => uptoBulk d + uptoBulkAll r
def uptoBulkEntries {H : Type} : List (Lit × DataW H) → Nat
  | [] => 0
  | x :: r => uptoBulkEntry x + uptoBulkEntries r
def uptoBulkEntry {H : Type} : Lit × DataW H → Nat
  | (.string bytes, d) => bytes.length + uptoBulk d + 1
  | (_, d) => uptoBulk d + 1
 end
def uptoSmall : (H : Type) → List (DataW H) → Bool := fun _ ds => decide (uptoBulkAll ds ≤ 1048576)
def OpenSpec.upto (s : _root_.Go.ChangeSpec) : _root_.Go.OpenSpec := { _root_.Go.OpenSpec.ofChange s with cond := some uptoSmall }

/-- 'laws.FnExactTreeType', WHERE WHAT IT READS IS OF BULK AT MOST 1048576: true; the input reads as it did. -/
def fnExactTreeTypeUptoRow : OpenClaim := { program := "ytambkcchnmbaoaa", sum := "7ac5677d8385a4d9aec89d92fe34800cdb04ce2c3bc66e1587511505fd80b5ba", func := "loop.example/smithy/laws.FnExactTreeType", spec := "fnExactTreeType", plainKeys := false, apart := false, narrowed := true }
def FnExactTreeTypeUptoSaid : Prop := fnExactTreeTypeUptoRow.holds Try.pinned (OpenSpec.upto fnExactTreeTypeSpec)

/-- 'laws.FnExactTreeArity', WHERE WHAT IT READS IS OF BULK AT MOST 1048576: true; the input reads as it did. -/
def fnExactTreeArityUptoRow : OpenClaim := { program := "ytambkcchnmbaoaa", sum := "7ac5677d8385a4d9aec89d92fe34800cdb04ce2c3bc66e1587511505fd80b5ba", func := "loop.example/smithy/laws.FnExactTreeArity", spec := "fnExactTreeArity", plainKeys := false, apart := false, narrowed := true }
def FnExactTreeArityUptoSaid : Prop := fnExactTreeArityUptoRow.holds Try.pinned (OpenSpec.upto fnExactTreeAritySpec)

/-- 'laws.FnExactTreeNodes', WHERE WHAT IT READS IS OF BULK AT MOST 1048576: true; the input reads as it did. -/
def fnExactTreeNodesUptoRow : OpenClaim := { program := "ytambkcchnmbaoaa", sum := "7ac5677d8385a4d9aec89d92fe34800cdb04ce2c3bc66e1587511505fd80b5ba", func := "loop.example/smithy/laws.FnExactTreeNodes", spec := "fnExactTreeNodes", unfollowed := true, recurses := true, loops := true, plainKeys := false, apart := false, narrowed := true }
def FnExactTreeNodesUptoSaid : Prop := fnExactTreeNodesUptoRow.holds Try.pinned (OpenSpec.upto fnExactTreeNodesSpec)

/-- 'laws.FnExactTreeOk', WHERE WHAT IT READS IS OF BULK AT MOST 1048576: true; the input reads as it did. -/
def fnExactTreeOkUptoRow : OpenClaim := { program := "ytambkcchnmbaoaa", sum := "7ac5677d8385a4d9aec89d92fe34800cdb04ce2c3bc66e1587511505fd80b5ba", func := "loop.example/smithy/laws.FnExactTreeOk", spec := "fnExactTreeOk", unfollowed := true, recurses := true, loops := true, plainKeys := false, apart := false, narrowed := true }
def FnExactTreeOkUptoSaid : Prop := fnExactTreeOkUptoRow.holds Try.pinned (OpenSpec.upto fnExactTreeOkSpec)

/-- 'laws.FnExactTreeSame', WHERE WHAT IT READS IS OF BULK AT MOST 1048576: true; the input reads as it did. -/
def fnExactTreeSameUptoRow : OpenClaim := { program := "ytambkcchnmbaoaa", sum := "7ac5677d8385a4d9aec89d92fe34800cdb04ce2c3bc66e1587511505fd80b5ba", func := "loop.example/smithy/laws.FnExactTreeSame", spec := "fnExactTreeSame", unfollowed := true, recurses := true, loops := true, plainKeys := false, apart := false, narrowed := true }
def FnExactTreeSameUptoSaid : Prop := fnExactTreeSameUptoRow.holds Try.pinned (OpenSpec.upto fnExactTreeSameSpec)

end Rows
end Go.Proofs.Ytambkcchnmbaoaa
