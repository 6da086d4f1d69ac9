/-
  DERIVED. GIVEN WITH THE SEED: THE CARDS: each row of YtpncohoonfahpaaGreatDoorRows.lean that lists a variable, with what it lists TIED to the program's text (the seventh form; the later family's looks); each row that meets fmt, with fmt's text TOLD by the authors' own Lean function (tested against real Go, not proved from fmt's source: count such statements apart). THE CARD IS WHAT COUNTS. Prove the row's statement (the work); the ties are given (YtpncohoonfahpaaGreatDoorTie.lean); close each card by the builder's one call (the guide's Derived/Test/ToyasCard.lean, 'card_holds'). Laid BY PROGRAM, IN A SANDBOX (cutbox-door.mjs). By AI agents, Wed Nov 11 2026. No macro, syntax, notation, axiom, sorry.
-/
import Derived.Test.YtpncohoonfahpaaGreatDoorRows
import GoSem.ClaimSeven
namespace Go.Proofs.YtpncohoonfahpaaGreatDoor
namespace Rows

/-- THE TIED CARD OF 'bastillelaw16.SuiteBytes'. -/
def suiteBytesCard : Claim7 := { stood := { row := suiteBytesRow, standIns := [], harness := (true, "e4ab1e4acbfc18bcfce2312587378639237680f2d3a9d5492960e576c1d34b22"), looks := false }, kinds := [], alts := [], laidByText := true, laidKinds := [.data, .data, .data, .data, .data, .data], laidTests := true, laidLooks := .later }
def SuiteBytesCardSaid : Prop := Claim7.holds Tryz.pinned (.plain (OpenSpec.ofChange suiteBytesSpec)) suiteBytesCard

/-- THE TIED CARD OF 'bastillelaw16.SuiteHides'. -/
def suiteHidesCard : Claim7 := { stood := { row := suiteHidesRow, standIns := [], harness := (true, "e4ab1e4acbfc18bcfce2312587378639237680f2d3a9d5492960e576c1d34b22"), looks := false }, kinds := [], alts := [], laidByText := true, laidKinds := [.data, .data, .data], laidTests := true, laidLooks := .later }
def SuiteHidesCardSaid : Prop := Claim7.holds Tryz.pinned (.plain (OpenSpec.ofChange suiteHidesSpec)) suiteHidesCard

/-- THE TIED CARD OF 'bastillelaw16.SuiteTerms'. -/
def suiteTermsCard : Claim7 := { stood := { row := suiteTermsRow, standIns := [], harness := (true, "e4ab1e4acbfc18bcfce2312587378639237680f2d3a9d5492960e576c1d34b22"), looks := false }, kinds := [], alts := [], laidByText := true, laidKinds := [.data, .data, .data, .data, .data, .data, .data], laidTests := true, laidLooks := .later }
def SuiteTermsCardSaid : Prop := Claim7.holds Tryz.pinned (.plain (OpenSpec.ofChange suiteTermsSpec)) suiteTermsCard

/-- THE TIED CARD OF 'bastillelaw16.SuiteOpens'. -/
def suiteOpensCard : Claim7 := { stood := { row := suiteOpensRow, standIns := [], harness := (true, "e4ab1e4acbfc18bcfce2312587378639237680f2d3a9d5492960e576c1d34b22"), looks := false }, kinds := [], alts := [], laidByText := true, laidKinds := [.data, .data, .data, .data, .data, .data, .data], laidTests := true, laidLooks := .later }
def SuiteOpensCardSaid : Prop := Claim7.holds Tryz.pinned (.plain (OpenSpec.ofChange suiteOpensSpec)) suiteOpensCard

/-- THE TIED CARD OF 'bastillelaw16.SuiteNone'. -/
def suiteNoneCard : Claim7 := { stood := { row := suiteNoneRow, standIns := [], harness := (true, "e4ab1e4acbfc18bcfce2312587378639237680f2d3a9d5492960e576c1d34b22"), looks := false }, kinds := [], alts := [], laidByText := true, laidKinds := [.data, .data, .data, .data, .data, .data, .data], laidTests := true, laidLooks := .later }
def SuiteNoneCardSaid : Prop := Claim7.holds Tryz.pinned (.plain (OpenSpec.ofChange suiteNoneSpec)) suiteNoneCard

/-- THE SECOND FORM's CARD OF 'bastillelaw16.SuiteBytes'. -/
def suiteBytesUptoCard : Claim7 := { stood := { row := suiteBytesUptoRow, standIns := [], harness := (true, "e4ab1e4acbfc18bcfce2312587378639237680f2d3a9d5492960e576c1d34b22"), looks := false }, kinds := [], alts := [], laidByText := true, laidKinds := [.data, .data, .data, .data, .data, .data], laidTests := true, laidLooks := .later }
def SuiteBytesUptoCardSaid : Prop := Claim7.holds Tryz.pinned (.plain (OpenSpec.upto suiteBytesSpec)) suiteBytesUptoCard

/-- THE SECOND FORM's CARD OF 'bastillelaw16.SuiteHides'. -/
def suiteHidesUptoCard : Claim7 := { stood := { row := suiteHidesUptoRow, standIns := [], harness := (true, "e4ab1e4acbfc18bcfce2312587378639237680f2d3a9d5492960e576c1d34b22"), looks := false }, kinds := [], alts := [], laidByText := true, laidKinds := [.data, .data, .data], laidTests := true, laidLooks := .later }
def SuiteHidesUptoCardSaid : Prop := Claim7.holds Tryz.pinned (.plain (OpenSpec.upto suiteHidesSpec)) suiteHidesUptoCard

/-- THE SECOND FORM's CARD OF 'bastillelaw16.SuiteTerms'. -/
def suiteTermsUptoCard : Claim7 := { stood := { row := suiteTermsUptoRow, standIns := [], harness := (true, "e4ab1e4acbfc18bcfce2312587378639237680f2d3a9d5492960e576c1d34b22"), looks := false }, kinds := [], alts := [], laidByText := true, laidKinds := [.data, .data, .data, .data, .data, .data, .data], laidTests := true, laidLooks := .later }
def SuiteTermsUptoCardSaid : Prop := Claim7.holds Tryz.pinned (.plain (OpenSpec.upto suiteTermsSpec)) suiteTermsUptoCard

/-- THE SECOND FORM's CARD OF 'bastillelaw16.SuiteOpens'. -/
def suiteOpensUptoCard : Claim7 := { stood := { row := suiteOpensUptoRow, standIns := [], harness := (true, "e4ab1e4acbfc18bcfce2312587378639237680f2d3a9d5492960e576c1d34b22"), looks := false }, kinds := [], alts := [], laidByText := true, laidKinds := [.data, .data, .data, .data, .data, .data, .data], laidTests := true, laidLooks := .later }
def SuiteOpensUptoCardSaid : Prop := Claim7.holds Tryz.pinned (.plain (OpenSpec.upto suiteOpensSpec)) suiteOpensUptoCard

/-- THE SECOND FORM's CARD OF 'bastillelaw16.SuiteNone'. -/
def suiteNoneUptoCard : Claim7 := { stood := { row := suiteNoneUptoRow, standIns := [], harness := (true, "e4ab1e4acbfc18bcfce2312587378639237680f2d3a9d5492960e576c1d34b22"), looks := false }, kinds := [], alts := [], laidByText := true, laidKinds := [.data, .data, .data, .data, .data, .data, .data], laidTests := true, laidLooks := .later }
def SuiteNoneUptoCardSaid : Prop := Claim7.holds Tryz.pinned (.plain (OpenSpec.upto suiteNoneSpec)) suiteNoneUptoCard
end Rows
end Go.Proofs.YtpncohoonfahpaaGreatDoor
