/-
  No cell of these rows narrows 'for every input' (looked for: loops, veiled, ifaces, maps, wideKeys, modest, calm, conditions, laid).
  DERIVED. THE GIVEN ROWS OF THIS SEAT. 7 by the template 'for every input the law returns true; each argument reads behind the call as it read before'; 0 by the template 'total and deterministic' (their statements: YtkegbdlbaanapaaTotals.lean).
  GIVEN WITH THE SEED: the statements are not yours to turn. If you find one false, say at which input.
  Laid BY PROGRAM, IN A SANDBOX (cutbox-rows.mjs): the forced cells as the released guide's own fill.sh prints them over the translation 3f03d28a1539ba8d… (all of the seat's roots in one cut). By AI agents, Wed Nov 11 2026. No macro, syntax, notation, axiom, sorry.
-/
import Derived.Test.YtkegbdlbaanapaaChecked
import GoSem.Claim
import GoSem.ClaimJoined
import GoSem.ClaimMapViews
import Derived.JoinedTies
import Derived.KernelRfl
namespace Go.Proofs.Ytkegbdlbaanapaa
/- THE CELL 'sum', in the pinned program and in every row, IS THE sha256 OF THE DUMP (.gsa) THAT YtkegbdlbaanapaaProg.lean LOADS. Nothing in Lean hashes anything: it is a label: what it is worth is what the hold of that sum in a sandbox is worth. -/
noncomputable def Try.pinned : Pinned := { name := "ytkegbdlbaanapaa", sum := "3f03d28a1539ba8da137f5264181c7fcf3de8d72feb69a1fd639cc93b22e42b4", checked := Try.checked }
namespace Rows
def none {H : Type} : Left H := { results := [], args := [] }

/-- 'laws.FnLex': WHATEVER THE INPUT: true; the input reads as it did. -/
def fnLexSpec : ChangeSpec := { name := "fnLex", fn := fun _ => fun
  | [d1, d2] => { results := [.lit (.bool true)], args := [d1, d2] }
  | _ => none }
def fnLexRow : OpenClaim := { program := "ytkegbdlbaanapaa", sum := "3f03d28a1539ba8da137f5264181c7fcf3de8d72feb69a1fd639cc93b22e42b4", func := "loop.example/smithy/laws.FnLex", spec := "fnLex", inPlace := ["internal/abi.NoEscape"], unfollowed := true, recurses := true, apart := false }
def FnLexSaid : Prop := fnLexRow.holds Try.pinned (OpenSpec.ofChange fnLexSpec)

/-- ITS FALSE NEIGHBOUR: 'it returns false'. Refute it at one input. -/
def fnLexWrong : ChangeSpec := { name := "fnLex", fn := fun _ => fun
  | [d1, d2] => { results := [.lit (.bool false)], args := [d1, d2] }
  | _ => none }
def FnLexWrongFalsely : Prop := fnLexRow.holds Try.pinned (OpenSpec.ofChange fnLexWrong)

/-- 'laws.FnLexName': WHATEVER THE INPUT: true; the input reads as it did. -/
def fnLexNameSpec : ChangeSpec := { name := "fnLexName", fn := fun _ => fun
  | [d1, d2] => { results := [.lit (.bool true)], args := [d1, d2] }
  | _ => none }
def fnLexNameRow : OpenClaim := { program := "ytkegbdlbaanapaa", sum := "3f03d28a1539ba8da137f5264181c7fcf3de8d72feb69a1fd639cc93b22e42b4", func := "loop.example/smithy/laws.FnLexName", spec := "fnLexName", inPlace := ["internal/bytealg.IndexByteString", "internal/bytealg.IndexString"], recurses := true, named := ["internal/bytealg.MaxLen"], apart := false }
def FnLexNameSaid : Prop := fnLexNameRow.holds Try.pinned (OpenSpec.ofChange fnLexNameSpec)

/-- ITS FALSE NEIGHBOUR: 'it returns false'. Refute it at one input. -/
def fnLexNameWrong : ChangeSpec := { name := "fnLexName", fn := fun _ => fun
  | [d1, d2] => { results := [.lit (.bool false)], args := [d1, d2] }
  | _ => none }
def FnLexNameWrongFalsely : Prop := fnLexNameRow.holds Try.pinned (OpenSpec.ofChange fnLexNameWrong)

/-- 'laws.FnExactLexCut': WHATEVER THE INPUT: true; the input reads as it did. -/
def fnExactLexCutSpec : ChangeSpec := { name := "fnExactLexCut", fn := fun _ => fun
  | [d] => { results := [.lit (.bool true)], args := [d] }
  | _ => none }
def fnExactLexCutRow : OpenClaim := { program := "ytkegbdlbaanapaa", sum := "3f03d28a1539ba8da137f5264181c7fcf3de8d72feb69a1fd639cc93b22e42b4", func := "loop.example/smithy/laws.FnExactLexCut", spec := "fnExactLexCut", unfollowed := true, recurses := true, apart := false }
def FnExactLexCutSaid : Prop := fnExactLexCutRow.holds Try.pinned (OpenSpec.ofChange fnExactLexCutSpec)

/-- ITS FALSE NEIGHBOUR: 'it returns false'. Refute it at one input. -/
def fnExactLexCutWrong : ChangeSpec := { name := "fnExactLexCut", fn := fun _ => fun
  | [d] => { results := [.lit (.bool false)], args := [d] }
  | _ => none }
def FnExactLexCutWrongFalsely : Prop := fnExactLexCutRow.holds Try.pinned (OpenSpec.ofChange fnExactLexCutWrong)

/-- 'laws.FnExactLexJoin': WHATEVER THE INPUT: true; the input reads as it did. -/
def fnExactLexJoinSpec : ChangeSpec := { name := "fnExactLexJoin", fn := fun _ => fun
  | [d] => { results := [.lit (.bool true)], args := [d] }
  | _ => none }
def fnExactLexJoinRow : OpenClaim := { program := "ytkegbdlbaanapaa", sum := "3f03d28a1539ba8da137f5264181c7fcf3de8d72feb69a1fd639cc93b22e42b4", func := "loop.example/smithy/laws.FnExactLexJoin", spec := "fnExactLexJoin", inPlace := ["internal/abi.NoEscape"], apart := false }
def FnExactLexJoinSaid : Prop := fnExactLexJoinRow.holds Try.pinned (OpenSpec.ofChange fnExactLexJoinSpec)

/-- ITS FALSE NEIGHBOUR: 'it returns false'. Refute it at one input. -/
def fnExactLexJoinWrong : ChangeSpec := { name := "fnExactLexJoin", fn := fun _ => fun
  | [d] => { results := [.lit (.bool false)], args := [d] }
  | _ => none }
def FnExactLexJoinWrongFalsely : Prop := fnExactLexJoinRow.holds Try.pinned (OpenSpec.ofChange fnExactLexJoinWrong)

/-- 'laws.FnExactLexName': WHATEVER THE INPUT: true; the input reads as it did. -/
def fnExactLexNameSpec : ChangeSpec := { name := "fnExactLexName", fn := fun _ => fun
  | [d] => { results := [.lit (.bool true)], args := [d] }
  | _ => none }
def fnExactLexNameRow : OpenClaim := { program := "ytkegbdlbaanapaa", sum := "3f03d28a1539ba8da137f5264181c7fcf3de8d72feb69a1fd639cc93b22e42b4", func := "loop.example/smithy/laws.FnExactLexName", spec := "fnExactLexName", apart := false }
def FnExactLexNameSaid : Prop := fnExactLexNameRow.holds Try.pinned (OpenSpec.ofChange fnExactLexNameSpec)

/-- ITS FALSE NEIGHBOUR: 'it returns false'. Refute it at one input. -/
def fnExactLexNameWrong : ChangeSpec := { name := "fnExactLexName", fn := fun _ => fun
  | [d] => { results := [.lit (.bool false)], args := [d] }
  | _ => none }
def FnExactLexNameWrongFalsely : Prop := fnExactLexNameRow.holds Try.pinned (OpenSpec.ofChange fnExactLexNameWrong)

/-- 'laws.FnExactLexDot': WHATEVER THE INPUT: true; the input reads as it did. -/
def fnExactLexDotSpec : ChangeSpec := { name := "fnExactLexDot", fn := fun _ => fun
  | [d] => { results := [.lit (.bool true)], args := [d] }
  | _ => none }
def fnExactLexDotRow : OpenClaim := { program := "ytkegbdlbaanapaa", sum := "3f03d28a1539ba8da137f5264181c7fcf3de8d72feb69a1fd639cc93b22e42b4", func := "loop.example/smithy/laws.FnExactLexDot", spec := "fnExactLexDot", inPlace := ["internal/bytealg.IndexByteString", "internal/bytealg.IndexString"], named := ["internal/bytealg.MaxLen"], apart := false }
def FnExactLexDotSaid : Prop := fnExactLexDotRow.holds Try.pinned (OpenSpec.ofChange fnExactLexDotSpec)

/-- ITS FALSE NEIGHBOUR: 'it returns false'. Refute it at one input. -/
def fnExactLexDotWrong : ChangeSpec := { name := "fnExactLexDot", fn := fun _ => fun
  | [d] => { results := [.lit (.bool false)], args := [d] }
  | _ => none }
def FnExactLexDotWrongFalsely : Prop := fnExactLexDotRow.holds Try.pinned (OpenSpec.ofChange fnExactLexDotWrong)

/-- 'laws.FnExactLexNum': WHATEVER THE INPUT: true; the input reads as it did. -/
def fnExactLexNumSpec : ChangeSpec := { name := "fnExactLexNum", fn := fun _ => fun
  | [d] => { results := [.lit (.bool true)], args := [d] }
  | _ => none }
def fnExactLexNumRow : OpenClaim := { program := "ytkegbdlbaanapaa", sum := "3f03d28a1539ba8da137f5264181c7fcf3de8d72feb69a1fd639cc93b22e42b4", func := "loop.example/smithy/laws.FnExactLexNum", spec := "fnExactLexNum", apart := false }
def FnExactLexNumSaid : Prop := fnExactLexNumRow.holds Try.pinned (OpenSpec.ofChange fnExactLexNumSpec)

/-- ITS FALSE NEIGHBOUR: 'it returns false'. Refute it at one input. -/
def fnExactLexNumWrong : ChangeSpec := { name := "fnExactLexNum", fn := fun _ => fun
  | [d] => { results := [.lit (.bool false)], args := [d] }
  | _ => none }
def FnExactLexNumWrongFalsely : Prop := fnExactLexNumRow.holds Try.pinned (OpenSpec.ofChange fnExactLexNumWrong)

/- THE SECOND FORM. 'bulk': how many values and letters a reading holds, each counted each time it is reached (what is shared counts as often as it is met; a slice's spare places count too). A statement '..UptoSaid' is the law's where the arguments, and the package variables that the reading takes, are together of bulk at most 1048576: NARROWER than '..Said'. Prove '..Said' where nothing that the law and all that it calls make is longer than what came in: it says more and counts as full. Else prove '..UptoSaid'. A law counts once. -/
mutual
def uptoBulk {H : Type} : DataW H → Nat
  | .lit (.string bytes) => bytes.length + 1
  | .lit _ => 1
  | .nil => 1
  | .ptr d => uptoBulk d + 1
  | .slice elems spare => uptoBulkAll elems + uptoBulkAll spare + 1
  | .agg parts => uptoBulkAll parts + 1
  | .iface _ d => uptoBulk d + 1
  | .map entries => uptoBulkEntries entries + 1
  | .held _ => 1
def uptoBulkAll {H : Type} : List (DataW H) → Nat
  | [] => 0
  | d :: r => uptoBulk d + uptoBulkAll r
def uptoBulkEntries {H : Type} : List (Lit × DataW H) → Nat
  | [] => 0
  | x :: r => uptoBulkEntry x + uptoBulkEntries r
def uptoBulkEntry {H : Type} : Lit × DataW H → Nat
  | (.string bytes, d) => bytes.length + uptoBulk d + 1
  | (_, d) => uptoBulk d + 1
 end
def uptoSmall : (H : Type) → List (DataW H) → Bool := fun _ ds => decide (uptoBulkAll ds ≤ 1048576)
def OpenSpec.upto (s : _root_.Go.ChangeSpec) : _root_.Go.OpenSpec := { _root_.Go.OpenSpec.ofChange s with cond := some uptoSmall }

/-- 'laws.FnLex', WHERE WHAT IT READS IS OF BULK AT MOST 1048576: true; the input reads as it did. -/
def fnLexUptoRow : OpenClaim := { program := "ytkegbdlbaanapaa", sum := "3f03d28a1539ba8da137f5264181c7fcf3de8d72feb69a1fd639cc93b22e42b4", func := "loop.example/smithy/laws.FnLex", spec := "fnLex", inPlace := ["internal/abi.NoEscape"], unfollowed := true, recurses := true, apart := false, narrowed := true }
def FnLexUptoSaid : Prop := fnLexUptoRow.holds Try.pinned (OpenSpec.upto fnLexSpec)

/-- 'laws.FnLexName', WHERE WHAT IT READS IS OF BULK AT MOST 1048576: true; the input reads as it did. -/
def fnLexNameUptoRow : OpenClaim := { program := "ytkegbdlbaanapaa", sum := "3f03d28a1539ba8da137f5264181c7fcf3de8d72feb69a1fd639cc93b22e42b4", func := "loop.example/smithy/laws.FnLexName", spec := "fnLexName", inPlace := ["internal/bytealg.IndexByteString", "internal/bytealg.IndexString"], recurses := true, named := ["internal/bytealg.MaxLen"], apart := false, narrowed := true }
def FnLexNameUptoSaid : Prop := fnLexNameUptoRow.holds Try.pinned (OpenSpec.upto fnLexNameSpec)

/-- 'laws.FnExactLexCut', WHERE WHAT IT READS IS OF BULK AT MOST 1048576: true; the input reads as it did. -/
def fnExactLexCutUptoRow : OpenClaim := { program := "ytkegbdlbaanapaa", sum := "3f03d28a1539ba8da137f5264181c7fcf3de8d72feb69a1fd639cc93b22e42b4", func := "loop.example/smithy/laws.FnExactLexCut", spec := "fnExactLexCut", unfollowed := true, recurses := true, apart := false, narrowed := true }
def FnExactLexCutUptoSaid : Prop := fnExactLexCutUptoRow.holds Try.pinned (OpenSpec.upto fnExactLexCutSpec)

/-- 'laws.FnExactLexJoin', WHERE WHAT IT READS IS OF BULK AT MOST 1048576: true; the input reads as it did. -/
def fnExactLexJoinUptoRow : OpenClaim := { program := "ytkegbdlbaanapaa", sum := "3f03d28a1539ba8da137f5264181c7fcf3de8d72feb69a1fd639cc93b22e42b4", func := "loop.example/smithy/laws.FnExactLexJoin", spec := "fnExactLexJoin", inPlace := ["internal/abi.NoEscape"], apart := false, narrowed := true }
def FnExactLexJoinUptoSaid : Prop := fnExactLexJoinUptoRow.holds Try.pinned (OpenSpec.upto fnExactLexJoinSpec)

/-- 'laws.FnExactLexName', WHERE WHAT IT READS IS OF BULK AT MOST 1048576: true; the input reads as it did. -/
def fnExactLexNameUptoRow : OpenClaim := { program := "ytkegbdlbaanapaa", sum := "3f03d28a1539ba8da137f5264181c7fcf3de8d72feb69a1fd639cc93b22e42b4", func := "loop.example/smithy/laws.FnExactLexName", spec := "fnExactLexName", apart := false, narrowed := true }
def FnExactLexNameUptoSaid : Prop := fnExactLexNameUptoRow.holds Try.pinned (OpenSpec.upto fnExactLexNameSpec)

/-- 'laws.FnExactLexDot', WHERE WHAT IT READS IS OF BULK AT MOST 1048576: true; the input reads as it did. -/
def fnExactLexDotUptoRow : OpenClaim := { program := "ytkegbdlbaanapaa", sum := "3f03d28a1539ba8da137f5264181c7fcf3de8d72feb69a1fd639cc93b22e42b4", func := "loop.example/smithy/laws.FnExactLexDot", spec := "fnExactLexDot", inPlace := ["internal/bytealg.IndexByteString", "internal/bytealg.IndexString"], named := ["internal/bytealg.MaxLen"], apart := false, narrowed := true }
def FnExactLexDotUptoSaid : Prop := fnExactLexDotUptoRow.holds Try.pinned (OpenSpec.upto fnExactLexDotSpec)

/-- 'laws.FnExactLexNum', WHERE WHAT IT READS IS OF BULK AT MOST 1048576: true; the input reads as it did. -/
def fnExactLexNumUptoRow : OpenClaim := { program := "ytkegbdlbaanapaa", sum := "3f03d28a1539ba8da137f5264181c7fcf3de8d72feb69a1fd639cc93b22e42b4", func := "loop.example/smithy/laws.FnExactLexNum", spec := "fnExactLexNum", apart := false, narrowed := true }
def FnExactLexNumUptoSaid : Prop := fnExactLexNumUptoRow.holds Try.pinned (OpenSpec.upto fnExactLexNumSpec)

end Rows
end Go.Proofs.Ytkegbdlbaanapaa
