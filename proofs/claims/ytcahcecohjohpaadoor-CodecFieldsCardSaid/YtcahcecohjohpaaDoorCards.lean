/-
  DERIVED. GIVEN WITH THE SEED: THE CARDS: each row of YtcahcecohjohpaaDoorRows.lean that lists a variable, with what it lists TIED to the program's text (the seventh form; the later family's looks); each row that meets fmt, with fmt's text TOLD by the authors' own Lean function (tested against real Go, not proved from fmt's source: count such statements apart). THE CARD IS WHAT COUNTS. Prove the row's statement (the work); the ties are given (YtcahcecohjohpaaDoorTie.lean); close each card by the builder's one call (the guide's Derived/Test/ToyasCard.lean, 'card_holds'). Laid BY PROGRAM, IN A SANDBOX (cutbox-door.mjs). By AI agents, Wed Nov 11 2026. No macro, syntax, notation, axiom, sorry.
-/
import Derived.Test.YtcahcecohjohpaaDoorRows
import GoSem.ClaimSeven
namespace Go.Proofs.YtcahcecohjohpaaDoor
namespace Rows

/-- THE TIED CARD OF 'bastillelaw02.CodecEncodes'. -/
def codecEncodesCard : Claim7 := { stood := { row := codecEncodesRow, standIns := [], harness := (true, "6a10c063dfd4cbac95e090df180914723e8e7f3c430a1562d0a112f22d273d65"), looks := false }, kinds := [], alts := [], laidByText := true, laidKinds := [.data, .data], laidTests := true, laidLooks := .later }
def CodecEncodesCardSaid : Prop := Claim7.holds Tryd.pinned (.plain (OpenSpec.ofChange codecEncodesSpec)) codecEncodesCard

/-- THE TIED CARD OF 'bastillelaw02.CodecBack'. -/
def codecBackCard : Claim7 := { stood := { row := codecBackRow, standIns := [], harness := (true, "6a10c063dfd4cbac95e090df180914723e8e7f3c430a1562d0a112f22d273d65"), looks := false }, kinds := [], alts := [], laidByText := true, laidKinds := [.data, .data], laidTests := true, laidLooks := .later }
def CodecBackCardSaid : Prop := Claim7.holds Tryd.pinned (.plain (OpenSpec.ofChange codecBackSpec)) codecBackCard

/-- THE TIED CARD OF 'bastillelaw02.CodecFields'. -/
def codecFieldsCard : Claim7 := { stood := { row := codecFieldsRow, standIns := [], harness := (true, "6a10c063dfd4cbac95e090df180914723e8e7f3c430a1562d0a112f22d273d65"), looks := false }, kinds := [], alts := [], laidByText := true, laidKinds := [.data, .data], laidTests := true, laidLooks := .later }
def CodecFieldsCardSaid : Prop := Claim7.holds Tryd.pinned (.plain (OpenSpec.ofChange codecFieldsSpec)) codecFieldsCard

/-- THE SECOND FORM's CARD OF 'bastillelaw02.CodecEncodes'. -/
def codecEncodesUptoCard : Claim7 := { stood := { row := codecEncodesUptoRow, standIns := [], harness := (true, "6a10c063dfd4cbac95e090df180914723e8e7f3c430a1562d0a112f22d273d65"), looks := false }, kinds := [], alts := [], laidByText := true, laidKinds := [.data, .data], laidTests := true, laidLooks := .later }
def CodecEncodesUptoCardSaid : Prop := Claim7.holds Tryd.pinned (.plain (OpenSpec.upto codecEncodesSpec)) codecEncodesUptoCard

/-- THE SECOND FORM's CARD OF 'bastillelaw02.CodecBack'. -/
def codecBackUptoCard : Claim7 := { stood := { row := codecBackUptoRow, standIns := [], harness := (true, "6a10c063dfd4cbac95e090df180914723e8e7f3c430a1562d0a112f22d273d65"), looks := false }, kinds := [], alts := [], laidByText := true, laidKinds := [.data, .data], laidTests := true, laidLooks := .later }
def CodecBackUptoCardSaid : Prop := Claim7.holds Tryd.pinned (.plain (OpenSpec.upto codecBackSpec)) codecBackUptoCard

/-- THE SECOND FORM's CARD OF 'bastillelaw02.CodecFields'. -/
def codecFieldsUptoCard : Claim7 := { stood := { row := codecFieldsUptoRow, standIns := [], harness := (true, "6a10c063dfd4cbac95e090df180914723e8e7f3c430a1562d0a112f22d273d65"), looks := false }, kinds := [], alts := [], laidByText := true, laidKinds := [.data, .data], laidTests := true, laidLooks := .later }
def CodecFieldsUptoCardSaid : Prop := Claim7.holds Tryd.pinned (.plain (OpenSpec.upto codecFieldsSpec)) codecFieldsUptoCard
end Rows
end Go.Proofs.YtcahcecohjohpaaDoor
