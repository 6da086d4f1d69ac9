/-
  DERIVED. GIVEN WITH THE SEED: THE CARDS: each row of YtkblmdakejmmhaaGreatDoorRows.lean that lists a variable, with what it lists TIED to the program's text (the seventh form; the later family's looks); each row that meets fmt, with fmt's text TOLD by the authors' own Lean function (tested against real Go, not proved from fmt's source: count such statements apart). THE CARD IS WHAT COUNTS. Prove the row's statement (the work); the ties are given (YtkblmdakejmmhaaGreatDoorTie.lean); close each card by the builder's one call (the guide's Derived/Test/ToyasCard.lean, 'card_holds'). Laid BY PROGRAM, IN A SANDBOX (cutbox-door.mjs). By AI agents, Wed Nov 11 2026. No macro, syntax, notation, axiom, sorry.
-/
import Derived.Test.YtkblmdakejmmhaaGreatDoorRows
import GoSem.ClaimSeven
namespace Go.Proofs.YtkblmdakejmmhaaGreatDoor
namespace Rows

/-- THE TIED CARD OF 'bastillelaw13.BoxWraps'. -/
def boxWrapsCard : Claim7 := { stood := { row := boxWrapsRow, standIns := [], harness := (true, "264e07c3ced5a0c8f4cf2d661198aae031c81a1c2eb9d4c38fd8083cceee5c29"), looks := false }, kinds := [], alts := [], laidByText := true, laidKinds := [.data, .data, .data], laidTests := true, laidLooks := .later }
def BoxWrapsCardSaid : Prop := Claim7.holds Tryz.pinned (.plain (OpenSpec.ofChange boxWrapsSpec)) boxWrapsCard

/-- THE TIED CARD OF 'bastillelaw13.BoxUnwraps'. -/
def boxUnwrapsCard : Claim7 := { stood := { row := boxUnwrapsRow, standIns := [], harness := (true, "264e07c3ced5a0c8f4cf2d661198aae031c81a1c2eb9d4c38fd8083cceee5c29"), looks := false }, kinds := [], alts := [], laidByText := true, laidKinds := [.data, .data, .data], laidTests := true, laidLooks := .later }
def BoxUnwrapsCardSaid : Prop := Claim7.holds Tryz.pinned (.plain (OpenSpec.ofChange boxUnwrapsSpec)) boxUnwrapsCard

/-- THE SECOND FORM's CARD OF 'bastillelaw13.BoxWraps'. -/
def boxWrapsUptoCard : Claim7 := { stood := { row := boxWrapsUptoRow, standIns := [], harness := (true, "264e07c3ced5a0c8f4cf2d661198aae031c81a1c2eb9d4c38fd8083cceee5c29"), looks := false }, kinds := [], alts := [], laidByText := true, laidKinds := [.data, .data, .data], laidTests := true, laidLooks := .later }
def BoxWrapsUptoCardSaid : Prop := Claim7.holds Tryz.pinned (.plain (OpenSpec.upto boxWrapsSpec)) boxWrapsUptoCard

/-- THE SECOND FORM's CARD OF 'bastillelaw13.BoxUnwraps'. -/
def boxUnwrapsUptoCard : Claim7 := { stood := { row := boxUnwrapsUptoRow, standIns := [], harness := (true, "264e07c3ced5a0c8f4cf2d661198aae031c81a1c2eb9d4c38fd8083cceee5c29"), looks := false }, kinds := [], alts := [], laidByText := true, laidKinds := [.data, .data, .data], laidTests := true, laidLooks := .later }
def BoxUnwrapsUptoCardSaid : Prop := Claim7.holds Tryz.pinned (.plain (OpenSpec.upto boxUnwrapsSpec)) boxUnwrapsUptoCard
end Rows
end Go.Proofs.YtkblmdakejmmhaaGreatDoor
