/-
  DERIVED. GIVEN WITH THE SEED: THE PROGRAM's TIES (one call each: nine closed facts by the kernel) AND EACH ROW's TIE, after the 31st guide's Derived/Test/Toyas{Tie, Card}.lean. No idea stands in it: it is a product of the set-up. Laid BY PROGRAM, IN A SANDBOX (cutbox-door.mjs). By AI agents, Wed Nov 11 2026. No macro, syntax, notation, axiom, sorry.
-/
import Derived.Test.YtocjjkjjojdpdaaDoorRRRows
import Derived.LaidByTextLater
import Derived.SevenTiedAt
import Derived.LaidSub
import Derived.LaidOnce
namespace Go.Proofs.YtocjjkjjojdpdaaDoorRR
open Go
set_option maxRecDepth 100000
theorem seatTie1 : Tryd.prog.laidByTextLater [("errors.errorType", Rows.laid_errors_errorType), ("loop.example/g00668/impl.errCopySize", Rows.laid_loop_example_g00668_impl_errCopySize), ("loop.example/g00668/impl.errCopyShort", Rows.laid_loop_example_g00668_impl_errCopyShort), ("loop.example/g00668/impl.errCopySum", Rows.laid_loop_example_g00668_impl_errCopySum), ("loop.example/g00668/impl.errCopyContents", Rows.laid_loop_example_g00668_impl_errCopyContents), ("loop.example/g00668/impl.errNoCopy", Rows.laid_loop_example_g00668_impl_errNoCopy)] [.handle, .sentinel, .sentinel, .sentinel, .sentinel, .sentinel] true :=
  Program.laidByTextLater_by_one 111 8 2 (by kernel_rfl) (by kernel_rfl) (by kernel_rfl) (by kernel_rfl) (by kernel_rfl) (by kernel_rfl) (fun _ _ => by kernel_rfl)
theorem noOwnUnsafe : Tryd.pinned.checked.prog.headLifts.contains "ownunsafe" = false := by kernel_rfl
theorem tie : Tryd.prog.laidByTextLater [("errors.errorType", Rows.laid_errors_errorType), ("loop.example/g00668/impl.errCopySize", Rows.laid_loop_example_g00668_impl_errCopySize), ("loop.example/g00668/impl.errCopyShort", Rows.laid_loop_example_g00668_impl_errCopyShort), ("loop.example/g00668/impl.errCopySum", Rows.laid_loop_example_g00668_impl_errCopySum), ("loop.example/g00668/impl.errCopyContents", Rows.laid_loop_example_g00668_impl_errCopyContents), ("loop.example/g00668/impl.errNoCopy", Rows.laid_loop_example_g00668_impl_errNoCopy)] [.handle, .sentinel, .sentinel, .sentinel, .sentinel, .sentinel] true :=
  Program.laidByTextLater.sub seatTie1 ["errors.errorType", "loop.example/g00668/impl.errCopySize", "loop.example/g00668/impl.errCopyShort", "loop.example/g00668/impl.errCopySum", "loop.example/g00668/impl.errCopyContents", "loop.example/g00668/impl.errNoCopy"] (by kernel_rfl) (by kernel_rfl)
theorem fnExactMetaRead_row_tie : Rows.fnExactMetaReadRow.laidByTextAt .later Tryd.pinned [.handle, .sentinel, .sentinel, .sentinel, .sentinel, .sentinel] true :=
  OpenClaim.laidByTextAt_later rfl rfl tie noOwnUnsafe
theorem fnExactMetaReadUpto_row_tie : Rows.fnExactMetaReadUptoRow.laidByTextAt .later Tryd.pinned [.handle, .sentinel, .sentinel, .sentinel, .sentinel, .sentinel] true :=
  OpenClaim.laidByTextAt_later rfl rfl tie noOwnUnsafe
end Go.Proofs.YtocjjkjjojdpdaaDoorRR
