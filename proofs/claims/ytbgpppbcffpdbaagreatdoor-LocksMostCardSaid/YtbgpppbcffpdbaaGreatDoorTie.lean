/-
  DERIVED. GIVEN WITH THE SEED: THE PROGRAM's TIES (one call each: nine closed facts by the kernel) AND EACH ROW's TIE, after the 31st guide's Derived/Test/Toyas{Tie, Card}.lean. No idea stands in it: it is a product of the set-up. Laid BY PROGRAM, IN A SANDBOX (cutbox-door.mjs). By AI agents, Wed Nov 11 2026. No macro, syntax, notation, axiom, sorry.
-/
import Derived.Test.YtbgpppbcffpdbaaGreatDoorRows
import Derived.LaidByTextLater
import Derived.SevenTiedAt
import Derived.LaidSub
import Derived.LaidOnce
namespace Go.Proofs.YtbgpppbcffpdbaaGreatDoor
open Go
set_option maxRecDepth 100000
theorem seatTie1 : Tryz.prog.laidByTextLater [("bursary/mode.goes", Rows.laid_bursary_mode_goes), ("bursary/mode.covers", Rows.laid_bursary_mode_covers)] [.wider, .wider] true :=
  Program.laidByTextLater_by_one 19 8 8 (by kernel_rfl) (by kernel_rfl) (by kernel_rfl) (by kernel_rfl) (by kernel_rfl) (by kernel_rfl) (fun _ _ => by kernel_rfl)
theorem noOwnUnsafe : Tryz.pinned.checked.prog.headLifts.contains "ownunsafe" = false := by kernel_rfl
theorem tie : Tryz.prog.laidByTextLater [("bursary/mode.goes", Rows.laid_bursary_mode_goes), ("bursary/mode.covers", Rows.laid_bursary_mode_covers)] [.wider, .wider] true :=
  Program.laidByTextLater.sub seatTie1 ["bursary/mode.goes", "bursary/mode.covers"] (by kernel_rfl) (by kernel_rfl)
theorem locksDoes_row_tie : Rows.locksDoesRow.laidByTextAt .later Tryz.pinned [.wider, .wider] true :=
  OpenClaim.laidByTextAt_later rfl rfl tie noOwnUnsafe
theorem locksTells_row_tie : Rows.locksTellsRow.laidByTextAt .later Tryz.pinned [.wider, .wider] true :=
  OpenClaim.laidByTextAt_later rfl rfl tie noOwnUnsafe
theorem locksMost_row_tie : Rows.locksMostRow.laidByTextAt .later Tryz.pinned [.wider, .wider] true :=
  OpenClaim.laidByTextAt_later rfl rfl tie noOwnUnsafe
theorem locksSafe_row_tie : Rows.locksSafeRow.laidByTextAt .later Tryz.pinned [.wider, .wider] true :=
  OpenClaim.laidByTextAt_later rfl rfl tie noOwnUnsafe
theorem locksServes_row_tie : Rows.locksServesRow.laidByTextAt .later Tryz.pinned [.wider, .wider] true :=
  OpenClaim.laidByTextAt_later rfl rfl tie noOwnUnsafe
theorem locksAlone_row_tie : Rows.locksAloneRow.laidByTextAt .later Tryz.pinned [.wider, .wider] true :=
  OpenClaim.laidByTextAt_later rfl rfl tie noOwnUnsafe
theorem locksDoesUpto_row_tie : Rows.locksDoesUptoRow.laidByTextAt .later Tryz.pinned [.wider, .wider] true :=
  OpenClaim.laidByTextAt_later rfl rfl tie noOwnUnsafe
theorem locksTellsUpto_row_tie : Rows.locksTellsUptoRow.laidByTextAt .later Tryz.pinned [.wider, .wider] true :=
  OpenClaim.laidByTextAt_later rfl rfl tie noOwnUnsafe
theorem locksMostUpto_row_tie : Rows.locksMostUptoRow.laidByTextAt .later Tryz.pinned [.wider, .wider] true :=
  OpenClaim.laidByTextAt_later rfl rfl tie noOwnUnsafe
theorem locksSafeUpto_row_tie : Rows.locksSafeUptoRow.laidByTextAt .later Tryz.pinned [.wider, .wider] true :=
  OpenClaim.laidByTextAt_later rfl rfl tie noOwnUnsafe
theorem locksServesUpto_row_tie : Rows.locksServesUptoRow.laidByTextAt .later Tryz.pinned [.wider, .wider] true :=
  OpenClaim.laidByTextAt_later rfl rfl tie noOwnUnsafe
theorem locksAloneUpto_row_tie : Rows.locksAloneUptoRow.laidByTextAt .later Tryz.pinned [.wider, .wider] true :=
  OpenClaim.laidByTextAt_later rfl rfl tie noOwnUnsafe
end Go.Proofs.YtbgpppbcffpdbaaGreatDoor
