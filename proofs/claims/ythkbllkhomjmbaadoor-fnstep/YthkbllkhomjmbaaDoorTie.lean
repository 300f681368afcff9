/-
  DERIVED. GIVEN WITH THE SEED: THE PROGRAM's TIES (one call each: nine closed facts by the kernel) AND EACH ROW's TIE, after the 31st guide's Derived/Test/Toyas{Tie, Card}.lean. No idea stands in it: it is a product of the set-up. Laid BY PROGRAM, IN A SANDBOX (cutbox-door.mjs). By AI agents, Wed Nov 11 2026. No macro, syntax, notation, axiom, sorry.
-/
import Derived.Test.YthkbllkhomjmbaaDoorRows
import Derived.LaidByTextLater
import Derived.SevenTiedAt
import Derived.LaidSub
import Derived.LaidOnce
namespace Go.Proofs.YthkbllkhomjmbaaDoor
open Go
set_option maxRecDepth 100000
theorem seatTie1 : Tryd.prog.laidByTextLater [("errors.errorType", Rows.laid_errors_errorType), ("loop.example/g00668/impl.errSealSize", Rows.laid_loop_example_g00668_impl_errSealSize), ("loop.example/g00668/impl.errSealShort", Rows.laid_loop_example_g00668_impl_errSealShort), ("loop.example/g00668/impl.errSealSum", Rows.laid_loop_example_g00668_impl_errSealSum), ("loop.example/g00668/impl.errCopyContents", Rows.laid_loop_example_g00668_impl_errCopyContents), ("loop.example/g00668/impl.errNoCopy", Rows.laid_loop_example_g00668_impl_errNoCopy), ("loop.example/g00668/impl.errNoPlace", Rows.laid_loop_example_g00668_impl_errNoPlace)] [.handle, .sentinel, .sentinel, .sentinel, .sentinel, .sentinel, .sentinel] true :=
  Program.laidByTextLater_by_one 130 8 2 (by kernel_rfl) (by kernel_rfl) (by kernel_rfl) (by kernel_rfl) (by kernel_rfl) (by kernel_rfl) (fun _ _ => by kernel_rfl)
theorem noOwnUnsafe : Tryd.pinned.checked.prog.headLifts.contains "ownunsafe" = false := by kernel_rfl
theorem tie : Tryd.prog.laidByTextLater [("errors.errorType", Rows.laid_errors_errorType)] [.handle] true :=
  Program.laidByTextLater.sub seatTie1 ["errors.errorType"] (by kernel_rfl) (by kernel_rfl)
theorem fnNums_row_tie : Rows.fnNumsRow.laidByTextAt .later Tryd.pinned [.handle] true :=
  OpenClaim.laidByTextAt_later rfl rfl tie noOwnUnsafe
theorem fnStep_row_tie : Rows.fnStepRow.laidByTextAt .later Tryd.pinned [.handle] true :=
  OpenClaim.laidByTextAt_later rfl rfl tie noOwnUnsafe
theorem fnExactStepRead_row_tie : Rows.fnExactStepReadRow.laidByTextAt .later Tryd.pinned [.handle] true :=
  OpenClaim.laidByTextAt_later rfl rfl tie noOwnUnsafe
theorem tie2 : Tryd.prog.laidByTextLater [("loop.example/g00668/impl.errSealSize", Rows.laid_loop_example_g00668_impl_errSealSize), ("loop.example/g00668/impl.errSealShort", Rows.laid_loop_example_g00668_impl_errSealShort), ("loop.example/g00668/impl.errSealSum", Rows.laid_loop_example_g00668_impl_errSealSum)] [.sentinel, .sentinel, .sentinel] true :=
  Program.laidByTextLater.sub seatTie1 ["loop.example/g00668/impl.errSealSize", "loop.example/g00668/impl.errSealShort", "loop.example/g00668/impl.errSealSum"] (by kernel_rfl) (by kernel_rfl)
theorem fnSeal_row_tie : Rows.fnSealRow.laidByTextAt .later Tryd.pinned [.sentinel, .sentinel, .sentinel] true :=
  OpenClaim.laidByTextAt_later rfl rfl tie2 noOwnUnsafe
theorem fnExactUnseal_row_tie : Rows.fnExactUnsealRow.laidByTextAt .later Tryd.pinned [.sentinel, .sentinel, .sentinel] true :=
  OpenClaim.laidByTextAt_later rfl rfl tie2 noOwnUnsafe
theorem tie3 : Tryd.prog.laidByTextLater [("errors.errorType", Rows.laid_errors_errorType), ("loop.example/g00668/impl.errSealSize", Rows.laid_loop_example_g00668_impl_errSealSize), ("loop.example/g00668/impl.errSealShort", Rows.laid_loop_example_g00668_impl_errSealShort), ("loop.example/g00668/impl.errSealSum", Rows.laid_loop_example_g00668_impl_errSealSum), ("loop.example/g00668/impl.errCopyContents", Rows.laid_loop_example_g00668_impl_errCopyContents), ("loop.example/g00668/impl.errNoCopy", Rows.laid_loop_example_g00668_impl_errNoCopy), ("loop.example/g00668/impl.errNoPlace", Rows.laid_loop_example_g00668_impl_errNoPlace)] [.handle, .sentinel, .sentinel, .sentinel, .sentinel, .sentinel, .sentinel] true :=
  Program.laidByTextLater.sub seatTie1 ["errors.errorType", "loop.example/g00668/impl.errSealSize", "loop.example/g00668/impl.errSealShort", "loop.example/g00668/impl.errSealSum", "loop.example/g00668/impl.errCopyContents", "loop.example/g00668/impl.errNoCopy", "loop.example/g00668/impl.errNoPlace"] (by kernel_rfl) (by kernel_rfl)
theorem fnExactMetaRead_row_tie : Rows.fnExactMetaReadRow.laidByTextAt .later Tryd.pinned [.handle, .sentinel, .sentinel, .sentinel, .sentinel, .sentinel, .sentinel] true :=
  OpenClaim.laidByTextAt_later rfl rfl tie3 noOwnUnsafe
theorem tie4 : Tryd.prog.laidByTextLater [("errors.errorType", Rows.laid_errors_errorType), ("loop.example/g00668/impl.errSealSize", Rows.laid_loop_example_g00668_impl_errSealSize), ("loop.example/g00668/impl.errSealShort", Rows.laid_loop_example_g00668_impl_errSealShort), ("loop.example/g00668/impl.errSealSum", Rows.laid_loop_example_g00668_impl_errSealSum)] [.handle, .sentinel, .sentinel, .sentinel] true :=
  Program.laidByTextLater.sub seatTie1 ["errors.errorType", "loop.example/g00668/impl.errSealSize", "loop.example/g00668/impl.errSealShort", "loop.example/g00668/impl.errSealSum"] (by kernel_rfl) (by kernel_rfl)
theorem fnExactRecordRead_row_tie : Rows.fnExactRecordReadRow.laidByTextAt .later Tryd.pinned [.handle, .sentinel, .sentinel, .sentinel] true :=
  OpenClaim.laidByTextAt_later rfl rfl tie4 noOwnUnsafe
theorem fnExactScan_row_tie : Rows.fnExactScanRow.laidByTextAt .later Tryd.pinned [.handle, .sentinel, .sentinel, .sentinel] true :=
  OpenClaim.laidByTextAt_later rfl rfl tie4 noOwnUnsafe
theorem fnNumsUpto_row_tie : Rows.fnNumsUptoRow.laidByTextAt .later Tryd.pinned [.handle] true :=
  OpenClaim.laidByTextAt_later rfl rfl tie noOwnUnsafe
theorem fnSealUpto_row_tie : Rows.fnSealUptoRow.laidByTextAt .later Tryd.pinned [.sentinel, .sentinel, .sentinel] true :=
  OpenClaim.laidByTextAt_later rfl rfl tie2 noOwnUnsafe
theorem fnStepUpto_row_tie : Rows.fnStepUptoRow.laidByTextAt .later Tryd.pinned [.handle] true :=
  OpenClaim.laidByTextAt_later rfl rfl tie noOwnUnsafe
theorem fnExactUnsealUpto_row_tie : Rows.fnExactUnsealUptoRow.laidByTextAt .later Tryd.pinned [.sentinel, .sentinel, .sentinel] true :=
  OpenClaim.laidByTextAt_later rfl rfl tie2 noOwnUnsafe
theorem fnExactMetaReadUpto_row_tie : Rows.fnExactMetaReadUptoRow.laidByTextAt .later Tryd.pinned [.handle, .sentinel, .sentinel, .sentinel, .sentinel, .sentinel, .sentinel] true :=
  OpenClaim.laidByTextAt_later rfl rfl tie3 noOwnUnsafe
theorem fnExactStepReadUpto_row_tie : Rows.fnExactStepReadUptoRow.laidByTextAt .later Tryd.pinned [.handle] true :=
  OpenClaim.laidByTextAt_later rfl rfl tie noOwnUnsafe
theorem fnExactRecordReadUpto_row_tie : Rows.fnExactRecordReadUptoRow.laidByTextAt .later Tryd.pinned [.handle, .sentinel, .sentinel, .sentinel] true :=
  OpenClaim.laidByTextAt_later rfl rfl tie4 noOwnUnsafe
theorem fnExactScanUpto_row_tie : Rows.fnExactScanUptoRow.laidByTextAt .later Tryd.pinned [.handle, .sentinel, .sentinel, .sentinel] true :=
  OpenClaim.laidByTextAt_later rfl rfl tie4 noOwnUnsafe
end Go.Proofs.YthkbllkhomjmbaaDoor
