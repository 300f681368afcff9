/-
  DERIVED. GIVEN WITH THE SEED: THE PROGRAM's TIES (one call each: nine closed facts by the kernel) AND EACH ROW's TIE, after the 31st guide's Derived/Test/Toyas{Tie, Card}.lean. No idea stands in it: it is a product of the set-up. Laid BY PROGRAM, IN A SANDBOX (cutbox-door.mjs). By AI agents, Wed Nov 11 2026. No macro, syntax, notation, axiom, sorry.
-/
import Derived.Test.YthkbllkhomjmbaaGreatDoorRows
import Derived.LaidByTextLater
import Derived.SevenTiedAt
import Derived.LaidSub
import Derived.LaidOnce
namespace Go.Proofs.YthkbllkhomjmbaaGreatDoor
open Go
set_option maxRecDepth 100000
theorem seatTie1 : Tryz.prog.laidByTextLater [("errors.errorType", Rows.laid_errors_errorType), ("loop.example/g00668/impl.errSealSize", Rows.laid_loop_example_g00668_impl_errSealSize), ("loop.example/g00668/impl.errSealShort", Rows.laid_loop_example_g00668_impl_errSealShort), ("loop.example/g00668/impl.errSealSum", Rows.laid_loop_example_g00668_impl_errSealSum), ("loop.example/g00668/impl.digestStart", Rows.laid_loop_example_g00668_impl_digestStart), ("loop.example/g00668/impl.digestSummands", Rows.laid_loop_example_g00668_impl_digestSummands), ("loop.example/g00668/impl.errStepCount", Rows.laid_loop_example_g00668_impl_errStepCount), ("loop.example/g00668/impl.errNotAStep", Rows.laid_loop_example_g00668_impl_errNotAStep), ("loop.example/g00668/impl.errBehind", Rows.laid_loop_example_g00668_impl_errBehind), ("loop.example/g00668/impl.errNotValid", Rows.laid_loop_example_g00668_impl_errNotValid)] [.handle, .sentinel, .sentinel, .sentinel, .data, .data, .sentinel, .sentinel, .sentinel, .sentinel] true :=
  Program.laidByTextLater_by_one 159 8 65 (by kernel_rfl) (by kernel_rfl) (by kernel_rfl) (by kernel_rfl) (by kernel_rfl) (by kernel_rfl) (fun _ _ => by kernel_rfl)
theorem noOwnUnsafe : Tryz.pinned.checked.prog.headLifts.contains "ownunsafe" = false := by kernel_rfl
theorem tie : Tryz.prog.laidByTextLater [("errors.errorType", Rows.laid_errors_errorType), ("loop.example/g00668/impl.errSealSize", Rows.laid_loop_example_g00668_impl_errSealSize), ("loop.example/g00668/impl.errSealShort", Rows.laid_loop_example_g00668_impl_errSealShort), ("loop.example/g00668/impl.errSealSum", Rows.laid_loop_example_g00668_impl_errSealSum), ("loop.example/g00668/impl.digestStart", Rows.laid_loop_example_g00668_impl_digestStart), ("loop.example/g00668/impl.digestSummands", Rows.laid_loop_example_g00668_impl_digestSummands), ("loop.example/g00668/impl.errStepCount", Rows.laid_loop_example_g00668_impl_errStepCount), ("loop.example/g00668/impl.errNotAStep", Rows.laid_loop_example_g00668_impl_errNotAStep), ("loop.example/g00668/impl.errBehind", Rows.laid_loop_example_g00668_impl_errBehind), ("loop.example/g00668/impl.errNotValid", Rows.laid_loop_example_g00668_impl_errNotValid)] [.handle, .sentinel, .sentinel, .sentinel, .data, .data, .sentinel, .sentinel, .sentinel, .sentinel] true :=
  Program.laidByTextLater.sub seatTie1 ["errors.errorType", "loop.example/g00668/impl.errSealSize", "loop.example/g00668/impl.errSealShort", "loop.example/g00668/impl.errSealSum", "loop.example/g00668/impl.digestStart", "loop.example/g00668/impl.digestSummands", "loop.example/g00668/impl.errStepCount", "loop.example/g00668/impl.errNotAStep", "loop.example/g00668/impl.errBehind", "loop.example/g00668/impl.errNotValid"] (by kernel_rfl) (by kernel_rfl)
theorem fnPackage_row_tie : Rows.fnPackageRow.laidByTextAt .later Tryz.pinned [.handle, .sentinel, .sentinel, .sentinel, .data, .data, .sentinel, .sentinel, .sentinel, .sentinel] true :=
  OpenClaim.laidByTextAt_later rfl rfl tie noOwnUnsafe
theorem tie2 : Tryz.prog.laidByTextLater [("errors.errorType", Rows.laid_errors_errorType), ("loop.example/g00668/impl.errSealSize", Rows.laid_loop_example_g00668_impl_errSealSize), ("loop.example/g00668/impl.errSealShort", Rows.laid_loop_example_g00668_impl_errSealShort), ("loop.example/g00668/impl.errSealSum", Rows.laid_loop_example_g00668_impl_errSealSum)] [.handle, .sentinel, .sentinel, .sentinel] true :=
  Program.laidByTextLater.sub seatTie1 ["errors.errorType", "loop.example/g00668/impl.errSealSize", "loop.example/g00668/impl.errSealShort", "loop.example/g00668/impl.errSealSum"] (by kernel_rfl) (by kernel_rfl)
theorem fnLog_row_tie : Rows.fnLogRow.laidByTextAt .later Tryz.pinned [.handle, .sentinel, .sentinel, .sentinel] true :=
  OpenClaim.laidByTextAt_later rfl rfl tie2 noOwnUnsafe
theorem fnPackageUpto_row_tie : Rows.fnPackageUptoRow.laidByTextAt .later Tryz.pinned [.handle, .sentinel, .sentinel, .sentinel, .data, .data, .sentinel, .sentinel, .sentinel, .sentinel] true :=
  OpenClaim.laidByTextAt_later rfl rfl tie noOwnUnsafe
theorem fnLogUpto_row_tie : Rows.fnLogUptoRow.laidByTextAt .later Tryz.pinned [.handle, .sentinel, .sentinel, .sentinel] true :=
  OpenClaim.laidByTextAt_later rfl rfl tie2 noOwnUnsafe
end Go.Proofs.YthkbllkhomjmbaaGreatDoor
