/-
  DERIVED. GIVEN WITH THE SEED: THE CARDS: each row of YtihipgojeikdkaaDoorRows.lean that lists a variable, with what it lists TIED to the program's text (the seventh form; the later family's looks); each row that meets fmt, with fmt's text TOLD by the authors' own Lean function (tested against real Go, not proved from fmt's source: count such statements apart). THE CARD IS WHAT COUNTS. Prove the row's statement (the work); the ties are given (YtihipgojeikdkaaDoorTie.lean); close each card by the builder's one call (the guide's Derived/Test/ToyasCard.lean, 'card_holds'). Laid BY PROGRAM, IN A SANDBOX (cutbox-door.mjs). By AI agents, Wed Nov 11 2026. No macro, syntax, notation, axiom, sorry.
-/
import Derived.Test.YtihipgojeikdkaaDoorRows
import GoSem.ClaimSeven
namespace Go.Proofs.YtihipgojeikdkaaDoor
namespace Rows

/-- THE TIED CARD OF 'bastillelaw12.DeriveTags'. -/
def deriveTagsCard : Claim7 := { stood := { row := deriveTagsRow, standIns := [], harness := (true, "901beb161b13eb2e01097a65c5efa6fe0bd1522330067b16aece9c585fb3ba1e"), looks := false }, kinds := [], alts := [], laidByText := true, laidKinds := [.data, .data], laidTests := true, laidLooks := .later }
def DeriveTagsCardSaid : Prop := Claim7.holds Tryd.pinned (.plain (OpenSpec.ofChange deriveTagsSpec)) deriveTagsCard

/-- THE TIED CARD OF 'bastillelaw12.DeriveKeys'. -/
def deriveKeysCard : Claim7 := { stood := { row := deriveKeysRow, standIns := [], harness := (true, "901beb161b13eb2e01097a65c5efa6fe0bd1522330067b16aece9c585fb3ba1e"), looks := false }, kinds := [], alts := [], laidByText := true, laidKinds := [.data, .data], laidTests := true, laidLooks := .later }
def DeriveKeysCardSaid : Prop := Claim7.holds Tryd.pinned (.plain (OpenSpec.ofChange deriveKeysSpec)) deriveKeysCard

/-- THE TIED CARD OF 'bastillelaw12.DeriveBack'. -/
def deriveBackCard : Claim7 := { stood := { row := deriveBackRow, standIns := [], harness := (true, "901beb161b13eb2e01097a65c5efa6fe0bd1522330067b16aece9c585fb3ba1e"), looks := false }, kinds := [], alts := [], laidByText := true, laidKinds := [.data, .data], laidTests := true, laidLooks := .later }
def DeriveBackCardSaid : Prop := Claim7.holds Tryd.pinned (.plain (OpenSpec.ofChange deriveBackSpec)) deriveBackCard

/-- THE SECOND FORM's CARD OF 'bastillelaw12.DeriveTags'. -/
def deriveTagsUptoCard : Claim7 := { stood := { row := deriveTagsUptoRow, standIns := [], harness := (true, "901beb161b13eb2e01097a65c5efa6fe0bd1522330067b16aece9c585fb3ba1e"), looks := false }, kinds := [], alts := [], laidByText := true, laidKinds := [.data, .data], laidTests := true, laidLooks := .later }
def DeriveTagsUptoCardSaid : Prop := Claim7.holds Tryd.pinned (.plain (OpenSpec.upto deriveTagsSpec)) deriveTagsUptoCard

/-- THE SECOND FORM's CARD OF 'bastillelaw12.DeriveKeys'. -/
def deriveKeysUptoCard : Claim7 := { stood := { row := deriveKeysUptoRow, standIns := [], harness := (true, "901beb161b13eb2e01097a65c5efa6fe0bd1522330067b16aece9c585fb3ba1e"), looks := false }, kinds := [], alts := [], laidByText := true, laidKinds := [.data, .data], laidTests := true, laidLooks := .later }
def DeriveKeysUptoCardSaid : Prop := Claim7.holds Tryd.pinned (.plain (OpenSpec.upto deriveKeysSpec)) deriveKeysUptoCard

/-- THE SECOND FORM's CARD OF 'bastillelaw12.DeriveBack'. -/
def deriveBackUptoCard : Claim7 := { stood := { row := deriveBackUptoRow, standIns := [], harness := (true, "901beb161b13eb2e01097a65c5efa6fe0bd1522330067b16aece9c585fb3ba1e"), looks := false }, kinds := [], alts := [], laidByText := true, laidKinds := [.data, .data], laidTests := true, laidLooks := .later }
def DeriveBackUptoCardSaid : Prop := Claim7.holds Tryd.pinned (.plain (OpenSpec.upto deriveBackSpec)) deriveBackUptoCard
end Rows
end Go.Proofs.YtihipgojeikdkaaDoor
