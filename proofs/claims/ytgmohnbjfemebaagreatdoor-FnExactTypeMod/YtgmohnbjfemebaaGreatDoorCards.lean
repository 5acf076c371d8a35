/-
  DERIVED. GIVEN WITH THE SEED: THE CARDS: each row of YtgmohnbjfemebaaGreatDoorRows.lean that lists a variable, with what it lists TIED to the program's text (the seventh form; the later family's looks); each row that meets fmt, with fmt's text TOLD by the authors' own Lean function (tested against real Go, not proved from fmt's source: count such statements apart). THE CARD IS WHAT COUNTS. Prove the row's statement (the work); the ties are given (YtgmohnbjfemebaaGreatDoorTie.lean); close each card by the builder's one call (the guide's Derived/Test/ToyasCard.lean, 'card_holds'). Laid BY PROGRAM, IN A SANDBOX (cutbox-door.mjs). By AI agents, Wed Nov 11 2026. No macro, syntax, notation, axiom, sorry.
-/
import Derived.Test.YtgmohnbjfemebaaGreatDoorRows
import GoSem.ClaimSeven
namespace Go.Proofs.YtgmohnbjfemebaaGreatDoor
namespace Rows

/-- THE TIED CARD OF 'laws.FnTypeOne'. -/
def fnTypeOneCard : Claim7 := { stood := { row := fnTypeOneRow, standIns := [], harness := (true, "01bd56029b16b28b1e5e0c955ca61d2e3bdbeb4f091d0894d8a36753fdd0763b"), looks := true }, kinds := [], alts := [], laidByText := true, laidKinds := [.handle], laidTests := true, laidLooks := .later }
def FnTypeOneCardSaid : Prop := Claim7.holds Tryz.pinned (.plain (OpenSpec.ofChange fnTypeOneSpec)) fnTypeOneCard

/-- THE TIED CARD OF 'laws.FnTypeFace'. -/
def fnTypeFaceCard : Claim7 := { stood := { row := fnTypeFaceRow, standIns := [], harness := (true, "01bd56029b16b28b1e5e0c955ca61d2e3bdbeb4f091d0894d8a36753fdd0763b"), looks := true }, kinds := [], alts := [], laidByText := true, laidKinds := [.handle], laidTests := true, laidLooks := .later }
def FnTypeFaceCardSaid : Prop := Claim7.holds Tryz.pinned (.plain (OpenSpec.ofChange fnTypeFaceSpec)) fnTypeFaceCard

/-- THE TIED CARD OF 'laws.FnTypeLet'. -/
def fnTypeLetCard : Claim7 := { stood := { row := fnTypeLetRow, standIns := [], harness := (true, "01bd56029b16b28b1e5e0c955ca61d2e3bdbeb4f091d0894d8a36753fdd0763b"), looks := true }, kinds := [], alts := [], laidByText := true, laidKinds := [.handle], laidTests := true, laidLooks := .later }
def FnTypeLetCardSaid : Prop := Claim7.holds Tryz.pinned (.plain (OpenSpec.ofChange fnTypeLetSpec)) fnTypeLetCard

/-- THE TIED CARD OF 'laws.FnExactTypeExpr'. -/
def fnExactTypeExprCard : Claim7 := { stood := { row := fnExactTypeExprRow, standIns := [], harness := (true, "01bd56029b16b28b1e5e0c955ca61d2e3bdbeb4f091d0894d8a36753fdd0763b"), looks := true }, kinds := [], alts := [], laidByText := true, laidKinds := [.handle], laidTests := true, laidLooks := .later }
def FnExactTypeExprCardSaid : Prop := Claim7.holds Tryz.pinned (.plain (OpenSpec.ofChange fnExactTypeExprSpec)) fnExactTypeExprCard

/-- THE TIED CARD OF 'laws.FnExactTypeMod'. -/
def fnExactTypeModCard : Claim7 := { stood := { row := fnExactTypeModRow, standIns := [], harness := (true, "01bd56029b16b28b1e5e0c955ca61d2e3bdbeb4f091d0894d8a36753fdd0763b"), looks := true }, kinds := [], alts := [], laidByText := true, laidKinds := [.handle], laidTests := true, laidLooks := .later }
def FnExactTypeModCardSaid : Prop := Claim7.holds Tryz.pinned (.plain (OpenSpec.ofChange fnExactTypeModSpec)) fnExactTypeModCard

/-- THE SECOND FORM's CARD OF 'laws.FnTypeOne'. -/
def fnTypeOneUptoCard : Claim7 := { stood := { row := fnTypeOneUptoRow, standIns := [], harness := (true, "01bd56029b16b28b1e5e0c955ca61d2e3bdbeb4f091d0894d8a36753fdd0763b"), looks := true }, kinds := [], alts := [], laidByText := true, laidKinds := [.handle], laidTests := true, laidLooks := .later }
def FnTypeOneUptoCardSaid : Prop := Claim7.holds Tryz.pinned (.plain (OpenSpec.upto fnTypeOneSpec)) fnTypeOneUptoCard

/-- THE SECOND FORM's CARD OF 'laws.FnTypeFace'. -/
def fnTypeFaceUptoCard : Claim7 := { stood := { row := fnTypeFaceUptoRow, standIns := [], harness := (true, "01bd56029b16b28b1e5e0c955ca61d2e3bdbeb4f091d0894d8a36753fdd0763b"), looks := true }, kinds := [], alts := [], laidByText := true, laidKinds := [.handle], laidTests := true, laidLooks := .later }
def FnTypeFaceUptoCardSaid : Prop := Claim7.holds Tryz.pinned (.plain (OpenSpec.upto fnTypeFaceSpec)) fnTypeFaceUptoCard

/-- THE SECOND FORM's CARD OF 'laws.FnTypeLet'. -/
def fnTypeLetUptoCard : Claim7 := { stood := { row := fnTypeLetUptoRow, standIns := [], harness := (true, "01bd56029b16b28b1e5e0c955ca61d2e3bdbeb4f091d0894d8a36753fdd0763b"), looks := true }, kinds := [], alts := [], laidByText := true, laidKinds := [.handle], laidTests := true, laidLooks := .later }
def FnTypeLetUptoCardSaid : Prop := Claim7.holds Tryz.pinned (.plain (OpenSpec.upto fnTypeLetSpec)) fnTypeLetUptoCard

/-- THE SECOND FORM's CARD OF 'laws.FnExactTypeExpr'. -/
def fnExactTypeExprUptoCard : Claim7 := { stood := { row := fnExactTypeExprUptoRow, standIns := [], harness := (true, "01bd56029b16b28b1e5e0c955ca61d2e3bdbeb4f091d0894d8a36753fdd0763b"), looks := true }, kinds := [], alts := [], laidByText := true, laidKinds := [.handle], laidTests := true, laidLooks := .later }
def FnExactTypeExprUptoCardSaid : Prop := Claim7.holds Tryz.pinned (.plain (OpenSpec.upto fnExactTypeExprSpec)) fnExactTypeExprUptoCard

/-- THE SECOND FORM's CARD OF 'laws.FnExactTypeMod'. -/
def fnExactTypeModUptoCard : Claim7 := { stood := { row := fnExactTypeModUptoRow, standIns := [], harness := (true, "01bd56029b16b28b1e5e0c955ca61d2e3bdbeb4f091d0894d8a36753fdd0763b"), looks := true }, kinds := [], alts := [], laidByText := true, laidKinds := [.handle], laidTests := true, laidLooks := .later }
def FnExactTypeModUptoCardSaid : Prop := Claim7.holds Tryz.pinned (.plain (OpenSpec.upto fnExactTypeModSpec)) fnExactTypeModUptoCard
end Rows
end Go.Proofs.YtgmohnbjfemebaaGreatDoor
