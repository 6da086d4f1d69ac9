/-
  DERIVED. GIVEN WITH THE SEED: THE PROGRAM's TIES (one call each: nine closed facts by the kernel) AND EACH ROW's TIE, after the 31st guide's Derived/Test/Toyas{Tie, Card}.lean. No idea stands in it: it is a product of the set-up. Laid BY PROGRAM, IN A SANDBOX (cutbox-door.mjs). By AI agents, Wed Nov 11 2026. No macro, syntax, notation, axiom, sorry.
-/
import Derived.Test.YtkblmdakejmmhaaGreatDoorRows
import Derived.LaidByTextLater
import Derived.SevenTiedAt
import Derived.LaidSub
import Derived.LaidOnce
namespace Go.Proofs.YtkblmdakejmmhaaGreatDoor
open Go
set_option maxRecDepth 100000
theorem seatTie1 : Tryz.prog.laidByTextLater [("bastille/sha.first", Rows.laid_bastille_sha_first), ("bastille/sha.kinds", Rows.laid_bastille_sha_kinds), ("bastille/chacha.quarters", Rows.laid_bastille_chacha_quarters)] [.data, .data, .data] true :=
  Program.laidByTextLater_by_one 32 8 81 (by kernel_rfl) (by kernel_rfl) (by kernel_rfl) (by kernel_rfl) (by kernel_rfl) (by kernel_rfl) (fun _ _ => by kernel_rfl)
theorem noOwnUnsafe : Tryz.pinned.checked.prog.headLifts.contains "ownunsafe" = false := by kernel_rfl
theorem tie : Tryz.prog.laidByTextLater [("bastille/sha.first", Rows.laid_bastille_sha_first), ("bastille/sha.kinds", Rows.laid_bastille_sha_kinds), ("bastille/chacha.quarters", Rows.laid_bastille_chacha_quarters)] [.data, .data, .data] true :=
  Program.laidByTextLater.sub seatTie1 ["bastille/sha.first", "bastille/sha.kinds", "bastille/chacha.quarters"] (by kernel_rfl) (by kernel_rfl)
theorem boxWraps_row_tie : Rows.boxWrapsRow.laidByTextAt .later Tryz.pinned [.data, .data, .data] true :=
  OpenClaim.laidByTextAt_later rfl rfl tie noOwnUnsafe
theorem boxUnwraps_row_tie : Rows.boxUnwrapsRow.laidByTextAt .later Tryz.pinned [.data, .data, .data] true :=
  OpenClaim.laidByTextAt_later rfl rfl tie noOwnUnsafe
theorem boxWrapsUpto_row_tie : Rows.boxWrapsUptoRow.laidByTextAt .later Tryz.pinned [.data, .data, .data] true :=
  OpenClaim.laidByTextAt_later rfl rfl tie noOwnUnsafe
theorem boxUnwrapsUpto_row_tie : Rows.boxUnwrapsUptoRow.laidByTextAt .later Tryz.pinned [.data, .data, .data] true :=
  OpenClaim.laidByTextAt_later rfl rfl tie noOwnUnsafe
end Go.Proofs.YtkblmdakejmmhaaGreatDoor
