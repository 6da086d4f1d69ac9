/-
  DERIVED. GIVEN WITH THE SEED: THE PROGRAM's TIES (one call each: nine closed facts by the kernel) AND EACH ROW's TIE, after the 31st guide's Derived/Test/Toyas{Tie, Card}.lean. No idea stands in it: it is a product of the set-up. Laid BY PROGRAM, IN A SANDBOX (cutbox-door.mjs). By AI agents, Wed Nov 11 2026. No macro, syntax, notation, axiom, sorry.
-/
import Derived.Test.YtpncohoonfahpaaGreatDoorRows
import Derived.LaidByTextLater
import Derived.SevenTiedAt
import Derived.LaidSub
import Derived.LaidOnce
namespace Go.Proofs.YtpncohoonfahpaaGreatDoor
open Go
set_option maxRecDepth 100000
theorem seatTie1 : Tryz.prog.laidByTextLater [("bastille/point.d", Rows.laid_bastille_point_d), ("bastille/point.baseX", Rows.laid_bastille_point_baseX), ("bastille/point.baseY", Rows.laid_bastille_point_baseY), ("bastille/scalar.order", Rows.laid_bastille_scalar_order), ("bastille/sha.first", Rows.laid_bastille_sha_first), ("bastille/sha.kinds", Rows.laid_bastille_sha_kinds), ("bastille/chacha.quarters", Rows.laid_bastille_chacha_quarters)] [.data, .data, .data, .data, .data, .data, .data] true :=
  Program.laidByTextLater_by_one 52 8 81 (by kernel_rfl) (by kernel_rfl) (by kernel_rfl) (by kernel_rfl) (by kernel_rfl) (by kernel_rfl) (fun _ _ => by kernel_rfl)
theorem noOwnUnsafe : Tryz.pinned.checked.prog.headLifts.contains "ownunsafe" = false := by kernel_rfl
theorem tie : Tryz.prog.laidByTextLater [("bastille/point.d", Rows.laid_bastille_point_d), ("bastille/point.baseX", Rows.laid_bastille_point_baseX), ("bastille/point.baseY", Rows.laid_bastille_point_baseY), ("bastille/scalar.order", Rows.laid_bastille_scalar_order), ("bastille/sha.first", Rows.laid_bastille_sha_first), ("bastille/sha.kinds", Rows.laid_bastille_sha_kinds)] [.data, .data, .data, .data, .data, .data] true :=
  Program.laidByTextLater.sub seatTie1 ["bastille/point.d", "bastille/point.baseX", "bastille/point.baseY", "bastille/scalar.order", "bastille/sha.first", "bastille/sha.kinds"] (by kernel_rfl) (by kernel_rfl)
theorem suiteBytes_row_tie : Rows.suiteBytesRow.laidByTextAt .later Tryz.pinned [.data, .data, .data, .data, .data, .data] true :=
  OpenClaim.laidByTextAt_later rfl rfl tie noOwnUnsafe
theorem tie2 : Tryz.prog.laidByTextLater [("bastille/sha.first", Rows.laid_bastille_sha_first), ("bastille/sha.kinds", Rows.laid_bastille_sha_kinds), ("bastille/chacha.quarters", Rows.laid_bastille_chacha_quarters)] [.data, .data, .data] true :=
  Program.laidByTextLater.sub seatTie1 ["bastille/sha.first", "bastille/sha.kinds", "bastille/chacha.quarters"] (by kernel_rfl) (by kernel_rfl)
theorem suiteHides_row_tie : Rows.suiteHidesRow.laidByTextAt .later Tryz.pinned [.data, .data, .data] true :=
  OpenClaim.laidByTextAt_later rfl rfl tie2 noOwnUnsafe
theorem tie3 : Tryz.prog.laidByTextLater [("bastille/point.d", Rows.laid_bastille_point_d), ("bastille/point.baseX", Rows.laid_bastille_point_baseX), ("bastille/point.baseY", Rows.laid_bastille_point_baseY), ("bastille/scalar.order", Rows.laid_bastille_scalar_order), ("bastille/sha.first", Rows.laid_bastille_sha_first), ("bastille/sha.kinds", Rows.laid_bastille_sha_kinds), ("bastille/chacha.quarters", Rows.laid_bastille_chacha_quarters)] [.data, .data, .data, .data, .data, .data, .data] true :=
  Program.laidByTextLater.sub seatTie1 ["bastille/point.d", "bastille/point.baseX", "bastille/point.baseY", "bastille/scalar.order", "bastille/sha.first", "bastille/sha.kinds", "bastille/chacha.quarters"] (by kernel_rfl) (by kernel_rfl)
theorem suiteTerms_row_tie : Rows.suiteTermsRow.laidByTextAt .later Tryz.pinned [.data, .data, .data, .data, .data, .data, .data] true :=
  OpenClaim.laidByTextAt_later rfl rfl tie3 noOwnUnsafe
theorem suiteOpens_row_tie : Rows.suiteOpensRow.laidByTextAt .later Tryz.pinned [.data, .data, .data, .data, .data, .data, .data] true :=
  OpenClaim.laidByTextAt_later rfl rfl tie3 noOwnUnsafe
theorem suiteNone_row_tie : Rows.suiteNoneRow.laidByTextAt .later Tryz.pinned [.data, .data, .data, .data, .data, .data, .data] true :=
  OpenClaim.laidByTextAt_later rfl rfl tie3 noOwnUnsafe
theorem suiteBytesUpto_row_tie : Rows.suiteBytesUptoRow.laidByTextAt .later Tryz.pinned [.data, .data, .data, .data, .data, .data] true :=
  OpenClaim.laidByTextAt_later rfl rfl tie noOwnUnsafe
theorem suiteHidesUpto_row_tie : Rows.suiteHidesUptoRow.laidByTextAt .later Tryz.pinned [.data, .data, .data] true :=
  OpenClaim.laidByTextAt_later rfl rfl tie2 noOwnUnsafe
theorem suiteTermsUpto_row_tie : Rows.suiteTermsUptoRow.laidByTextAt .later Tryz.pinned [.data, .data, .data, .data, .data, .data, .data] true :=
  OpenClaim.laidByTextAt_later rfl rfl tie3 noOwnUnsafe
theorem suiteOpensUpto_row_tie : Rows.suiteOpensUptoRow.laidByTextAt .later Tryz.pinned [.data, .data, .data, .data, .data, .data, .data] true :=
  OpenClaim.laidByTextAt_later rfl rfl tie3 noOwnUnsafe
theorem suiteNoneUpto_row_tie : Rows.suiteNoneUptoRow.laidByTextAt .later Tryz.pinned [.data, .data, .data, .data, .data, .data, .data] true :=
  OpenClaim.laidByTextAt_later rfl rfl tie3 noOwnUnsafe
end Go.Proofs.YtpncohoonfahpaaGreatDoor
