/-
  DERIVED. GIVEN WITH THE SEED: THE CARDS: each row of YtcbcahlgafngcaaDoorRows.lean that lists a variable, with what it lists TIED to the program's text (the seventh form; the later family's looks); each row that meets fmt, with fmt's text TOLD by the authors' own Lean function (tested against real Go, not proved from fmt's source: count such statements apart). THE CARD IS WHAT COUNTS. Prove the row's statement (the work); the ties are given (YtcbcahlgafngcaaDoorTie.lean); close each card by the builder's one call (the guide's Derived/Test/ToyasCard.lean, 'card_holds'). Laid BY PROGRAM, IN A SANDBOX (cutbox-door.mjs). By AI agents, Wed Nov 11 2026. No macro, syntax, notation, axiom, sorry.
-/
import Derived.Test.YtcbcahlgafngcaaDoorRows
import GoSem.ClaimSeven
namespace Go.Proofs.YtcbcahlgafngcaaDoor
namespace Rows

/-- THE TIED CARD OF 'bastillelaw09.ChachaBlocks'. -/
def chachaBlocksCard : Claim7 := { stood := { row := chachaBlocksRow, standIns := [], harness := (true, "137d79c0a1d6cb57478e3fda223f144b5905f0759a3ce83b9a0ec5428564f06e"), looks := false }, kinds := [], alts := [], laidByText := true, laidKinds := [.data], laidTests := true, laidLooks := .later }
def ChachaBlocksCardSaid : Prop := Claim7.holds Tryd.pinned (.plain (OpenSpec.ofChange chachaBlocksSpec)) chachaBlocksCard

/-- THE TIED CARD OF 'bastillelaw09.ChachaHides'. -/
def chachaHidesCard : Claim7 := { stood := { row := chachaHidesRow, standIns := [], harness := (true, "137d79c0a1d6cb57478e3fda223f144b5905f0759a3ce83b9a0ec5428564f06e"), looks := false }, kinds := [], alts := [], laidByText := true, laidKinds := [.data], laidTests := true, laidLooks := .later }
def ChachaHidesCardSaid : Prop := Claim7.holds Tryd.pinned (.plain (OpenSpec.ofChange chachaHidesSpec)) chachaHidesCard

/-- THE TIED CARD OF 'bastillelaw09.ChachaBack'. -/
def chachaBackCard : Claim7 := { stood := { row := chachaBackRow, standIns := [], harness := (true, "137d79c0a1d6cb57478e3fda223f144b5905f0759a3ce83b9a0ec5428564f06e"), looks := false }, kinds := [], alts := [], laidByText := true, laidKinds := [.data], laidTests := true, laidLooks := .later }
def ChachaBackCardSaid : Prop := Claim7.holds Tryd.pinned (.plain (OpenSpec.ofChange chachaBackSpec)) chachaBackCard

/-- THE SECOND FORM's CARD OF 'bastillelaw09.ChachaBlocks'. -/
def chachaBlocksUptoCard : Claim7 := { stood := { row := chachaBlocksUptoRow, standIns := [], harness := (true, "137d79c0a1d6cb57478e3fda223f144b5905f0759a3ce83b9a0ec5428564f06e"), looks := false }, kinds := [], alts := [], laidByText := true, laidKinds := [.data], laidTests := true, laidLooks := .later }
def ChachaBlocksUptoCardSaid : Prop := Claim7.holds Tryd.pinned (.plain (OpenSpec.upto chachaBlocksSpec)) chachaBlocksUptoCard

/-- THE SECOND FORM's CARD OF 'bastillelaw09.ChachaHides'. -/
def chachaHidesUptoCard : Claim7 := { stood := { row := chachaHidesUptoRow, standIns := [], harness := (true, "137d79c0a1d6cb57478e3fda223f144b5905f0759a3ce83b9a0ec5428564f06e"), looks := false }, kinds := [], alts := [], laidByText := true, laidKinds := [.data], laidTests := true, laidLooks := .later }
def ChachaHidesUptoCardSaid : Prop := Claim7.holds Tryd.pinned (.plain (OpenSpec.upto chachaHidesSpec)) chachaHidesUptoCard

/-- THE SECOND FORM's CARD OF 'bastillelaw09.ChachaBack'. -/
def chachaBackUptoCard : Claim7 := { stood := { row := chachaBackUptoRow, standIns := [], harness := (true, "137d79c0a1d6cb57478e3fda223f144b5905f0759a3ce83b9a0ec5428564f06e"), looks := false }, kinds := [], alts := [], laidByText := true, laidKinds := [.data], laidTests := true, laidLooks := .later }
def ChachaBackUptoCardSaid : Prop := Claim7.holds Tryd.pinned (.plain (OpenSpec.upto chachaBackSpec)) chachaBackUptoCard
end Rows
end Go.Proofs.YtcbcahlgafngcaaDoor
