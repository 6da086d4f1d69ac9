/-
  DERIVED. GIVEN WITH THE SEED: THE CARDS: each row of YtcoegehnipldpaaDoorRows.lean that lists a variable, with what it lists TIED to the program's text (the seventh form; the later family's looks); each row that meets fmt, with fmt's text TOLD by the authors' own Lean function (tested against real Go, not proved from fmt's source: count such statements apart). THE CARD IS WHAT COUNTS. Prove the row's statement (the work); the ties are given (YtcoegehnipldpaaDoorTie.lean); close each card by the builder's one call (the guide's Derived/Test/ToyasCard.lean, 'card_holds'). Laid BY PROGRAM, IN A SANDBOX (cutbox-door.mjs). By AI agents, Wed Nov 11 2026. No macro, syntax, notation, axiom, sorry.
-/
import Derived.Test.YtcoegehnipldpaaDoorRows
import GoSem.ClaimSeven
namespace Go.Proofs.YtcoegehnipldpaaDoor
namespace Rows

/-- THE TIED CARD OF 'bastillelaw06.ScalarTakes'. -/
def scalarTakesCard : Claim7 := { stood := { row := scalarTakesRow, standIns := [], harness := (true, "bcfc8a0eeea91fe4ef6fa2d54c8c41910391c851707de7d369ffb8d7b2f31abc"), looks := false }, kinds := [], alts := [], laidByText := true, laidKinds := [.data], laidTests := true, laidLooks := .later }
def ScalarTakesCardSaid : Prop := Claim7.holds Tryd.pinned (.plain (OpenSpec.ofChange scalarTakesSpec)) scalarTakesCard

/-- THE TIED CARD OF 'bastillelaw06.ScalarSums'. -/
def scalarSumsCard : Claim7 := { stood := { row := scalarSumsRow, standIns := [], harness := (true, "bcfc8a0eeea91fe4ef6fa2d54c8c41910391c851707de7d369ffb8d7b2f31abc"), looks := false }, kinds := [], alts := [], laidByText := true, laidKinds := [.data], laidTests := true, laidLooks := .later }
def ScalarSumsCardSaid : Prop := Claim7.holds Tryd.pinned (.plain (OpenSpec.ofChange scalarSumsSpec)) scalarSumsCard

/-- THE TIED CARD OF 'bastillelaw06.ScalarLaws'. -/
def scalarLawsCard : Claim7 := { stood := { row := scalarLawsRow, standIns := [], harness := (true, "bcfc8a0eeea91fe4ef6fa2d54c8c41910391c851707de7d369ffb8d7b2f31abc"), looks := false }, kinds := [], alts := [], laidByText := true, laidKinds := [.data], laidTests := true, laidLooks := .later }
def ScalarLawsCardSaid : Prop := Claim7.holds Tryd.pinned (.plain (OpenSpec.ofChange scalarLawsSpec)) scalarLawsCard

/-- THE SECOND FORM's CARD OF 'bastillelaw06.ScalarTakes'. -/
def scalarTakesUptoCard : Claim7 := { stood := { row := scalarTakesUptoRow, standIns := [], harness := (true, "bcfc8a0eeea91fe4ef6fa2d54c8c41910391c851707de7d369ffb8d7b2f31abc"), looks := false }, kinds := [], alts := [], laidByText := true, laidKinds := [.data], laidTests := true, laidLooks := .later }
def ScalarTakesUptoCardSaid : Prop := Claim7.holds Tryd.pinned (.plain (OpenSpec.upto scalarTakesSpec)) scalarTakesUptoCard

/-- THE SECOND FORM's CARD OF 'bastillelaw06.ScalarSums'. -/
def scalarSumsUptoCard : Claim7 := { stood := { row := scalarSumsUptoRow, standIns := [], harness := (true, "bcfc8a0eeea91fe4ef6fa2d54c8c41910391c851707de7d369ffb8d7b2f31abc"), looks := false }, kinds := [], alts := [], laidByText := true, laidKinds := [.data], laidTests := true, laidLooks := .later }
def ScalarSumsUptoCardSaid : Prop := Claim7.holds Tryd.pinned (.plain (OpenSpec.upto scalarSumsSpec)) scalarSumsUptoCard

/-- THE SECOND FORM's CARD OF 'bastillelaw06.ScalarLaws'. -/
def scalarLawsUptoCard : Claim7 := { stood := { row := scalarLawsUptoRow, standIns := [], harness := (true, "bcfc8a0eeea91fe4ef6fa2d54c8c41910391c851707de7d369ffb8d7b2f31abc"), looks := false }, kinds := [], alts := [], laidByText := true, laidKinds := [.data], laidTests := true, laidLooks := .later }
def ScalarLawsUptoCardSaid : Prop := Claim7.holds Tryd.pinned (.plain (OpenSpec.upto scalarLawsSpec)) scalarLawsUptoCard
end Rows
end Go.Proofs.YtcoegehnipldpaaDoor
