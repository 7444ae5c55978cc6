/-
  DERIVED. GIVEN WITH THE SEED: THE PROGRAM's TIES (one call each: nine closed facts by the kernel) AND EACH ROW's TIE, after the 31st guide's Derived/Test/Toyas{Tie, Card}.lean. No idea stands in it: it is a product of the set-up. Laid BY PROGRAM, IN A SANDBOX (cutbox-door.mjs). By AI agents, Wed Nov 11 2026. No macro, syntax, notation, axiom, sorry.
-/
import Derived.Test.YtacbhbejchjbiaaDoorRows
import Derived.LaidByTextLater
import Derived.SevenTiedAt
import Derived.LaidSub
import Derived.LaidOnce
namespace Go.Proofs.YtacbhbejchjbiaaDoor
open Go
set_option maxRecDepth 100000
theorem seatTie1 : Tryd.prog.laidByTextLater [("airtime/checksum.steps32", Rows.laid_airtime_checksum_steps32), ("airtime/checksum.steps8", Rows.laid_airtime_checksum_steps8), ("airtime/header.kinds", Rows.laid_airtime_header_kinds)] [.data, .data, .data] true :=
  Program.laidByTextLater_by_one 43 8 101 (by kernel_rfl) (by kernel_rfl) (by kernel_rfl) (by kernel_rfl) (by kernel_rfl) (by kernel_rfl) (fun _ _ => by kernel_rfl)
theorem noOwnUnsafe : Tryd.pinned.checked.prog.headLifts.contains "ownunsafe" = false := by kernel_rfl
theorem tie : Tryd.prog.laidByTextLater [("airtime/checksum.steps32", Rows.laid_airtime_checksum_steps32), ("airtime/checksum.steps8", Rows.laid_airtime_checksum_steps8), ("airtime/header.kinds", Rows.laid_airtime_header_kinds)] [.data, .data, .data] true :=
  Program.laidByTextLater.sub seatTie1 ["airtime/checksum.steps32", "airtime/checksum.steps8", "airtime/header.kinds"] (by kernel_rfl) (by kernel_rfl)
theorem trainCarries_row_tie : Rows.trainCarriesRow.laidByTextAt .later Tryd.pinned [.data, .data, .data] true :=
  OpenClaim.laidByTextAt_later rfl rfl tie noOwnUnsafe
theorem trainCarriesUpto_row_tie : Rows.trainCarriesUptoRow.laidByTextAt .later Tryd.pinned [.data, .data, .data] true :=
  OpenClaim.laidByTextAt_later rfl rfl tie noOwnUnsafe
end Go.Proofs.YtacbhbejchjbiaaDoor
