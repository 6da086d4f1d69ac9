/-
  DERIVED. GIVEN WITH THE SEED: THE CARDS: each row of YtpaopdjbhmdfjaaDoorRows.lean that lists a variable, with what it lists TIED to the program's text (the seventh form; the later family's looks); each row that meets fmt, with fmt's text TOLD by the authors' own Lean function (tested against real Go, not proved from fmt's source: count such statements apart). THE CARD IS WHAT COUNTS. Prove the row's statement (the work); the ties are given (YtpaopdjbhmdfjaaDoorTie.lean); close each card by the builder's one call (the guide's Derived/Test/ToyasCard.lean, 'card_holds'). Laid BY PROGRAM, IN A SANDBOX (cutbox-door.mjs). By AI agents, Wed Nov 11 2026. No macro, syntax, notation, axiom, sorry.
-/
import Derived.Test.YtpaopdjbhmdfjaaDoorRows
import GoSem.ClaimSeven
namespace Go.Proofs.YtpaopdjbhmdfjaaDoor
namespace Rows

/-- THE TIED CARD OF 'bastillelaw07.PointOf'. -/
def pointOfCard : Claim7 := { stood := { row := pointOfRow, standIns := [], harness := (true, "d9f9a1aadc3d15df499ffd80d38f62207babda5bde488f57762d40309e4e3502"), looks := false }, kinds := [], alts := [], laidByText := true, laidKinds := [.data, .data, .data], laidTests := true, laidLooks := .later }
def PointOfCardSaid : Prop := Claim7.holds Tryd.pinned (.plain (OpenSpec.ofChange pointOfSpec)) pointOfCard

/-- THE TIED CARD OF 'bastillelaw07.PointSums'. -/
def pointSumsCard : Claim7 := { stood := { row := pointSumsRow, standIns := [], harness := (true, "d9f9a1aadc3d15df499ffd80d38f62207babda5bde488f57762d40309e4e3502"), looks := false }, kinds := [], alts := [], laidByText := true, laidKinds := [.data, .data, .data], laidTests := true, laidLooks := .later }
def PointSumsCardSaid : Prop := Claim7.holds Tryd.pinned (.plain (OpenSpec.ofChange pointSumsSpec)) pointSumsCard

/-- THE TIED CARD OF 'bastillelaw07.PointLaws'. -/
def pointLawsCard : Claim7 := { stood := { row := pointLawsRow, standIns := [], harness := (true, "d9f9a1aadc3d15df499ffd80d38f62207babda5bde488f57762d40309e4e3502"), looks := false }, kinds := [], alts := [], laidByText := true, laidKinds := [.data, .data, .data], laidTests := true, laidLooks := .later }
def PointLawsCardSaid : Prop := Claim7.holds Tryd.pinned (.plain (OpenSpec.ofChange pointLawsSpec)) pointLawsCard

/-- THE SECOND FORM's CARD OF 'bastillelaw07.PointOf'. -/
def pointOfUptoCard : Claim7 := { stood := { row := pointOfUptoRow, standIns := [], harness := (true, "d9f9a1aadc3d15df499ffd80d38f62207babda5bde488f57762d40309e4e3502"), looks := false }, kinds := [], alts := [], laidByText := true, laidKinds := [.data, .data, .data], laidTests := true, laidLooks := .later }
def PointOfUptoCardSaid : Prop := Claim7.holds Tryd.pinned (.plain (OpenSpec.upto pointOfSpec)) pointOfUptoCard

/-- THE SECOND FORM's CARD OF 'bastillelaw07.PointSums'. -/
def pointSumsUptoCard : Claim7 := { stood := { row := pointSumsUptoRow, standIns := [], harness := (true, "d9f9a1aadc3d15df499ffd80d38f62207babda5bde488f57762d40309e4e3502"), looks := false }, kinds := [], alts := [], laidByText := true, laidKinds := [.data, .data, .data], laidTests := true, laidLooks := .later }
def PointSumsUptoCardSaid : Prop := Claim7.holds Tryd.pinned (.plain (OpenSpec.upto pointSumsSpec)) pointSumsUptoCard

/-- THE SECOND FORM's CARD OF 'bastillelaw07.PointLaws'. -/
def pointLawsUptoCard : Claim7 := { stood := { row := pointLawsUptoRow, standIns := [], harness := (true, "d9f9a1aadc3d15df499ffd80d38f62207babda5bde488f57762d40309e4e3502"), looks := false }, kinds := [], alts := [], laidByText := true, laidKinds := [.data, .data, .data], laidTests := true, laidLooks := .later }
def PointLawsUptoCardSaid : Prop := Claim7.holds Tryd.pinned (.plain (OpenSpec.upto pointLawsSpec)) pointLawsUptoCard
end Rows
end Go.Proofs.YtpaopdjbhmdfjaaDoor
