/-
  NARROWER THAN 'FOR EVERY INPUT', by the rows' own cells (each row's printed sentence says how): FnExactMetaRead: ifaces, laid.
  DERIVED. THE GIVEN ROWS OF THIS SEAT. 1 by the template 'for every input the law returns true; each argument reads behind the call as it read before'; 0 by the template 'total and deterministic' (their statements: YtocjjkjjojdpdaaDoorRRTotals.lean).
  GIVEN WITH THE SEED: the statements are not yours to turn. If you find one false, say at which input.
  Laid BY PROGRAM, IN A SANDBOX (cutbox-rows.mjs): the forced cells as the released guide's own fill.sh prints them over the translation 5a72fe37a5a84bdc… (all of the seat's roots in one cut). By AI agents, Wed Nov 11 2026. No macro, syntax, notation, axiom, sorry.
-/
import Derived.Test.YtocjjkjjojdpdaaDoorRRChecked
import GoSem.Claim
import GoSem.ClaimJoined
import GoSem.ClaimMapViews
import Derived.JoinedTies
import Derived.KernelRfl
namespace Go.Proofs.YtocjjkjjojdpdaaDoorRR
/- THE CELL 'sum', in the pinned program and in every row, IS THE sha256 OF THE DUMP (.gsa) THAT YtocjjkjjojdpdaaDoorRRProg.lean LOADS. Nothing in Lean hashes anything: it is a label: what it is worth is what the hold of that sum in a sandbox is worth. -/
noncomputable def Tryd.pinned : Pinned := { name := "ytocjjkjjojdpdaadoorrr", sum := "5a72fe37a5a84bdc23db7e82fffe08bd1befe055d681721df06a5fc301437f37", checked := Tryd.checked }
namespace Rows
def none {H : Type} : Left H := { results := [], args := [] }

/- WHAT THE LISTED PACKAGE-LEVEL VARIABLES READ AS WHEN THE CALL BEGINS. Each datum BY PROGRAM (the guide's laid-datum.mjs) off the statement by which the dump's own 'gosem.cut.vars' lays the variable. In a bare row this is a premise. The card (YtocjjkjjojdpdaaDoorRRCards.lean) ties it to the program's text. -/
def laid_errors_errorType {H : Type} : DataW H := .iface "internal/reflectlite.rtype" (.agg [.ptr (.lit (.string [101, 114, 114, 111, 114]))])
def laid_loop_example_g00668_impl_errCopySize {H : Type} : DataW H := .iface "*errors.errorString" (.ptr (.agg [.lit (.string [116, 104, 101, 32, 99, 111, 112, 121, 32, 105, 115, 32, 108, 111, 110, 103, 101, 114, 32, 116, 104, 97, 110, 32, 97, 110, 121, 32, 115, 116, 114, 105, 110, 103, 32, 109, 97, 121, 32, 98, 101])]))
def laid_loop_example_g00668_impl_errCopyShort {H : Type} : DataW H := .iface "*errors.errorString" (.ptr (.agg [.lit (.string [116, 104, 101, 32, 99, 111, 112, 121, 32, 104, 97, 115, 32, 110, 111, 32, 114, 111, 111, 109, 32, 102, 111, 114, 32, 97, 32, 99, 104, 101, 99, 107, 115, 117, 109])]))
def laid_loop_example_g00668_impl_errCopySum {H : Type} : DataW H := .iface "*errors.errorString" (.ptr (.agg [.lit (.string [116, 104, 101, 32, 99, 111, 112, 121, 32, 104, 97, 115, 32, 97, 32, 119, 114, 111, 110, 103, 32, 99, 104, 101, 99, 107, 115, 117, 109])]))
def laid_loop_example_g00668_impl_errCopyContents {H : Type} : DataW H := .iface "*errors.errorString" (.ptr (.agg [.lit (.string [116, 104, 101, 32, 99, 111, 112, 121, 32, 99, 111, 110, 116, 97, 105, 110, 115, 32, 115, 111, 109, 101, 116, 104, 105, 110, 103, 32, 101, 108, 115, 101])]))
def laid_loop_example_g00668_impl_errNoCopy {H : Type} : DataW H := .iface "*errors.errorString" (.ptr (.agg [.lit (.string [110, 101, 105, 116, 104, 101, 114, 32, 115, 101, 99, 116, 111, 114, 32, 104, 97, 115, 32, 97, 32, 99, 111, 112, 121])]))

/-- 'laws.FnExactMetaRead': WHATEVER THE INPUT: true; the input reads as it did. -/
def fnExactMetaReadSpec : ChangeSpec := { name := "fnExactMetaRead", vars := ["loop.example/g00668/impl.errCopyContents", "loop.example/g00668/impl.errCopySize", "loop.example/g00668/impl.errCopyShort", "loop.example/g00668/impl.errCopySum", "loop.example/g00668/impl.errNoCopy"], fn := fun _ => fun
  | [d, g1, g2, g3, g4, g5] => { results := [.lit (.bool true)], args := [d], vars := [g1, g2, g3, g4, g5] }
  | _ => none }
def fnExactMetaReadRow : OpenClaim := { program := "ytocjjkjjojdpdaadoorrr", sum := "5a72fe37a5a84bdc23db7e82fffe08bd1befe055d681721df06a5fc301437f37", func := "loop.example/g00668/laws.FnExactMetaRead", spec := "fnExactMetaRead", inPlace := ["internal/reflectlite.ValueOf", "(internal/reflectlite.Value).Type", "(internal/reflectlite.Value).IsNil", "internal/reflectlite.TypeOf", "(internal/reflectlite.Value).Elem", "(internal/reflectlite.Value).Set"], unfollowed := true, recurses := true, named := ["loop.example/g00668/impl.errCopyContents", "loop.example/g00668/impl.errCopySize", "loop.example/g00668/impl.errCopyShort", "loop.example/g00668/impl.errCopySum", "errors.errorType", "loop.example/g00668/impl.errNoCopy"], ifaces := true, apart := false, laid := [("errors.errorType", laid_errors_errorType), ("loop.example/g00668/impl.errCopySize", laid_loop_example_g00668_impl_errCopySize), ("loop.example/g00668/impl.errCopyShort", laid_loop_example_g00668_impl_errCopyShort), ("loop.example/g00668/impl.errCopySum", laid_loop_example_g00668_impl_errCopySum), ("loop.example/g00668/impl.errCopyContents", laid_loop_example_g00668_impl_errCopyContents), ("loop.example/g00668/impl.errNoCopy", laid_loop_example_g00668_impl_errNoCopy)] }
def FnExactMetaReadSaid : Prop := fnExactMetaReadRow.holds Tryd.pinned (OpenSpec.ofChange fnExactMetaReadSpec)

/-- ITS FALSE NEIGHBOUR: 'it returns false'. Refute it at one input. -/
def fnExactMetaReadWrong : ChangeSpec := { name := "fnExactMetaRead", vars := ["loop.example/g00668/impl.errCopyContents", "loop.example/g00668/impl.errCopySize", "loop.example/g00668/impl.errCopyShort", "loop.example/g00668/impl.errCopySum", "loop.example/g00668/impl.errNoCopy"], fn := fun _ => fun
  | [d, g1, g2, g3, g4, g5] => { results := [.lit (.bool false)], args := [d], vars := [g1, g2, g3, g4, g5] }
  | _ => none }
def FnExactMetaReadWrongFalsely : Prop := fnExactMetaReadRow.holds Tryd.pinned (OpenSpec.ofChange fnExactMetaReadWrong)

/- THE SECOND FORM. 'bulk': how many values and letters a reading holds, each counted each time it is reached (what is shared counts as often as it is met; a slice's spare places count too). A statement '..UptoSaid' is the law's where the arguments, and the package variables that the reading takes, are together of bulk at most 1048576: NARROWER than '..Said'. Prove '..Said' where nothing that the law and all that it calls make is longer than what came in: it says more and counts as full. Else prove '..UptoSaid'. A law counts once. -/
mutual
def uptoBulk {H : Type} : DataW H → Nat
  | .lit (.string bytes) => bytes.length + 1
  | .lit _ => 1
  | .nil => 1
  | .ptr d => uptoBulk d + 1
  | .slice elems spare => uptoBulkAll elems + uptoBulkAll spare + 1
  | .agg parts => uptoBulkAll parts + 1
  | .iface _ d => uptoBulk d + 1
  | .map entries => uptoBulkEntries entries + 1
  | .held _ => 1
def uptoBulkAll {H : Type} : List (DataW H) → Nat
  | [] => 0
  | d :: r => uptoBulk d + uptoBulkAll r
def uptoBulkEntries {H : Type} : List (Lit × DataW H) → Nat
  | [] => 0
  | x :: r => uptoBulkEntry x + uptoBulkEntries r
def uptoBulkEntry {H : Type} : Lit × DataW H → Nat
  | (.string bytes, d) => bytes.length + uptoBulk d + 1
  | (_, d) => uptoBulk d + 1
 end
def uptoSmall : (H : Type) → List (DataW H) → Bool := fun _ ds => decide (uptoBulkAll ds ≤ 1048576)
def OpenSpec.upto (s : _root_.Go.ChangeSpec) : _root_.Go.OpenSpec := { _root_.Go.OpenSpec.ofChange s with cond := some uptoSmall }

/-- 'laws.FnExactMetaRead', WHERE WHAT IT READS IS OF BULK AT MOST 1048576: true; the input reads as it did. -/
def fnExactMetaReadUptoRow : OpenClaim := { program := "ytocjjkjjojdpdaadoorrr", sum := "5a72fe37a5a84bdc23db7e82fffe08bd1befe055d681721df06a5fc301437f37", func := "loop.example/g00668/laws.FnExactMetaRead", spec := "fnExactMetaRead", inPlace := ["internal/reflectlite.ValueOf", "(internal/reflectlite.Value).Type", "(internal/reflectlite.Value).IsNil", "internal/reflectlite.TypeOf", "(internal/reflectlite.Value).Elem", "(internal/reflectlite.Value).Set"], unfollowed := true, recurses := true, named := ["loop.example/g00668/impl.errCopyContents", "loop.example/g00668/impl.errCopySize", "loop.example/g00668/impl.errCopyShort", "loop.example/g00668/impl.errCopySum", "errors.errorType", "loop.example/g00668/impl.errNoCopy"], ifaces := true, apart := false, laid := [("errors.errorType", laid_errors_errorType), ("loop.example/g00668/impl.errCopySize", laid_loop_example_g00668_impl_errCopySize), ("loop.example/g00668/impl.errCopyShort", laid_loop_example_g00668_impl_errCopyShort), ("loop.example/g00668/impl.errCopySum", laid_loop_example_g00668_impl_errCopySum), ("loop.example/g00668/impl.errCopyContents", laid_loop_example_g00668_impl_errCopyContents), ("loop.example/g00668/impl.errNoCopy", laid_loop_example_g00668_impl_errNoCopy)], narrowed := true }
def FnExactMetaReadUptoSaid : Prop := fnExactMetaReadUptoRow.holds Tryd.pinned (OpenSpec.upto fnExactMetaReadSpec)

end Rows
end Go.Proofs.YtocjjkjjojdpdaaDoorRR
