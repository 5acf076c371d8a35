/-
  No cell of these rows narrows 'for every input' (looked for: loops, veiled, ifaces, maps, wideKeys, modest, calm, conditions, laid).
  DERIVED. THE GIVEN ROWS OF THIS SEAT. 3 by the template 'for every input the law returns true; each argument reads behind the call as it read before'; 0 by the template 'total and deterministic' (their statements: YtifcfjjlgehopaaTotals.lean).
  GIVEN WITH THE SEED: the statements are not yours to turn. If you find one false, say at which input.
  Laid BY PROGRAM, IN A SANDBOX (cutbox-rows.mjs): the forced cells as the released guide's own fill.sh prints them over the translation 47c64446c8356dc3… (all of the seat's roots in one cut). By AI agents, Wed Nov 11 2026. No macro, syntax, notation, axiom, sorry.
-/
import Derived.Test.YtifcfjjlgehopaaChecked
import GoSem.Claim
import GoSem.ClaimJoined
import GoSem.ClaimMapViews
import Derived.JoinedTies
import Derived.KernelRfl
namespace Go.Proofs.Ytifcfjjlgehopaa
/- THE CELL 'sum', in the pinned program and in every row, IS THE sha256 OF THE DUMP (.gsa) THAT YtifcfjjlgehopaaProg.lean LOADS. Nothing in Lean hashes anything: it is a label: what it is worth is what the hold of that sum in a sandbox is worth. -/
noncomputable def Try.pinned : Pinned := { name := "ytifcfjjlgehopaa", sum := "47c64446c8356dc3025464bd4f19791d9442c259e4fdacb03864119817849eec", checked := Try.checked }
namespace Rows
def none {H : Type} : Left H := { results := [], args := [] }

/-- 'laws.FnExactFaceOk': WHATEVER THE INPUT: true; the input reads as it did. -/
def fnExactFaceOkSpec : ChangeSpec := { name := "fnExactFaceOk", fn := fun _ => fun
  | [d] => { results := [.lit (.bool true)], args := [d] }
  | _ => none }
def fnExactFaceOkRow : OpenClaim := { program := "ytifcfjjlgehopaa", sum := "47c64446c8356dc3025464bd4f19791d9442c259e4fdacb03864119817849eec", func := "loop.example/smithy/laws.FnExactFaceOk", spec := "fnExactFaceOk", unfollowed := true, recurses := true, apart := false }
def FnExactFaceOkSaid : Prop := fnExactFaceOkRow.holds Try.pinned (OpenSpec.ofChange fnExactFaceOkSpec)

/-- ITS FALSE NEIGHBOUR: 'it returns false'. Refute it at one input. -/
def fnExactFaceOkWrong : ChangeSpec := { name := "fnExactFaceOk", fn := fun _ => fun
  | [d] => { results := [.lit (.bool false)], args := [d] }
  | _ => none }
def FnExactFaceOkWrongFalsely : Prop := fnExactFaceOkRow.holds Try.pinned (OpenSpec.ofChange fnExactFaceOkWrong)

/-- 'laws.FnExactFaceText': WHATEVER THE INPUT: true; the input reads as it did. -/
def fnExactFaceTextSpec : ChangeSpec := { name := "fnExactFaceText", fn := fun _ => fun
  | [d] => { results := [.lit (.bool true)], args := [d] }
  | _ => none }
def fnExactFaceTextRow : OpenClaim := { program := "ytifcfjjlgehopaa", sum := "47c64446c8356dc3025464bd4f19791d9442c259e4fdacb03864119817849eec", func := "loop.example/smithy/laws.FnExactFaceText", spec := "fnExactFaceText", inPlace := ["internal/abi.NoEscape", "internal/bytealg.MakeNoZero"], unfollowed := true, recurses := true, apart := false }
def FnExactFaceTextSaid : Prop := fnExactFaceTextRow.holds Try.pinned (OpenSpec.ofChange fnExactFaceTextSpec)

/-- ITS FALSE NEIGHBOUR: 'it returns false'. Refute it at one input. -/
def fnExactFaceTextWrong : ChangeSpec := { name := "fnExactFaceText", fn := fun _ => fun
  | [d] => { results := [.lit (.bool false)], args := [d] }
  | _ => none }
def FnExactFaceTextWrongFalsely : Prop := fnExactFaceTextRow.holds Try.pinned (OpenSpec.ofChange fnExactFaceTextWrong)

/-- 'laws.FnExactObjOk': WHATEVER THE INPUT: true; the input reads as it did. -/
def fnExactObjOkSpec : ChangeSpec := { name := "fnExactObjOk", fn := fun _ => fun
  | [d] => { results := [.lit (.bool true)], args := [d] }
  | _ => none }
def fnExactObjOkRow : OpenClaim := { program := "ytifcfjjlgehopaa", sum := "47c64446c8356dc3025464bd4f19791d9442c259e4fdacb03864119817849eec", func := "loop.example/smithy/laws.FnExactObjOk", spec := "fnExactObjOk", apart := false }
def FnExactObjOkSaid : Prop := fnExactObjOkRow.holds Try.pinned (OpenSpec.ofChange fnExactObjOkSpec)

/-- ITS FALSE NEIGHBOUR: 'it returns false'. Refute it at one input. -/
def fnExactObjOkWrong : ChangeSpec := { name := "fnExactObjOk", fn := fun _ => fun
  | [d] => { results := [.lit (.bool false)], args := [d] }
  | _ => none }
def FnExactObjOkWrongFalsely : Prop := fnExactObjOkRow.holds Try.pinned (OpenSpec.ofChange fnExactObjOkWrong)

/- THE SECOND FORM. 'bulk': how many values and letters a reading holds, each counted each time it is reached (what is shared counts as often as it is met; a slice's spare places count too). A statement '..UptoSaid' is the law's where the arguments, and the package variables that the reading takes, are together of bulk at most 1048576: NARROWER than '..Said'. Prove '..Said' where nothing that the law and all that it calls make is longer than what came in: it says more and counts as full. Else prove '..UptoSaid'. A law counts once. -/
mutual
def uptoBulk {H : Type} : DataW H → Nat
  | .lit (.string bytes) => bytes.length + 1
  | .lit _ => 1
  | .nil => 1
  | .ptr d => uptoBulk d + 1
  | .slice elems spare => uptoBulkAll elems + uptoBulkAll spare + 1
  | .agg parts => uptoBulkAll parts + 1
  | .iface _ d => uptoBulk d + 1
  | .map entries => uptoBulkEntries entries + 1
  | .held _ => 1
def uptoBulkAll {H : Type} : List (DataW H) → Nat
  | [] => 0
  | d :: r => uptoBulk d + uptoBulkAll r
def uptoBulkEntries {H : Type} : List (Lit × DataW H) → Nat
  | [] => 0
  | x :: r => uptoBulkEntry x + uptoBulkEntries r
def uptoBulkEntry {H : Type} : Lit × DataW H → Nat
  | (.string bytes, d) => bytes.length + uptoBulk d + 1
  | (_, d) => uptoBulk d + 1
 end
def uptoSmall : (H : Type) → List (DataW H) → Bool := fun _ ds => decide (uptoBulkAll ds ≤ 1048576)
def OpenSpec.upto (s : _root_.Go.ChangeSpec) : _root_.Go.OpenSpec := { _root_.Go.OpenSpec.ofChange s with cond := some uptoSmall }

/-- 'laws.FnExactFaceOk', WHERE WHAT IT READS IS OF BULK AT MOST 1048576: true; the input reads as it did. -/
def fnExactFaceOkUptoRow : OpenClaim := { program := "ytifcfjjlgehopaa", sum := "47c64446c8356dc3025464bd4f19791d9442c259e4fdacb03864119817849eec", func := "loop.example/smithy/laws.FnExactFaceOk", spec := "fnExactFaceOk", unfollowed := true, recurses := true, apart := false, narrowed := true }
def FnExactFaceOkUptoSaid : Prop := fnExactFaceOkUptoRow.holds Try.pinned (OpenSpec.upto fnExactFaceOkSpec)

/-- 'laws.FnExactFaceText', WHERE WHAT IT READS IS OF BULK AT MOST 1048576: true; the input reads as it did. -/
def fnExactFaceTextUptoRow : OpenClaim := { program := "ytifcfjjlgehopaa", sum := "47c64446c8356dc3025464bd4f19791d9442c259e4fdacb03864119817849eec", func := "loop.example/smithy/laws.FnExactFaceText", spec := "fnExactFaceText", inPlace := ["internal/abi.NoEscape", "internal/bytealg.MakeNoZero"], unfollowed := true, recurses := true, apart := false, narrowed := true }
def FnExactFaceTextUptoSaid : Prop := fnExactFaceTextUptoRow.holds Try.pinned (OpenSpec.upto fnExactFaceTextSpec)

/-- 'laws.FnExactObjOk', WHERE WHAT IT READS IS OF BULK AT MOST 1048576: true; the input reads as it did. -/
def fnExactObjOkUptoRow : OpenClaim := { program := "ytifcfjjlgehopaa", sum := "47c64446c8356dc3025464bd4f19791d9442c259e4fdacb03864119817849eec", func := "loop.example/smithy/laws.FnExactObjOk", spec := "fnExactObjOk", apart := false, narrowed := true }
def FnExactObjOkUptoSaid : Prop := fnExactObjOkUptoRow.holds Try.pinned (OpenSpec.upto fnExactObjOkSpec)

end Rows
end Go.Proofs.Ytifcfjjlgehopaa
