/-
  NARROWER THAN 'FOR EVERY INPUT', by the rows' own cells (each row's printed sentence says how): FnNums: laid · FnSeal: ifaces, laid · FnStep: laid · FnExactUnseal: ifaces, laid · FnExactMetaRead: ifaces, laid · FnExactStepRead: laid · FnExactRecordRead: ifaces, laid · FnExactScan: ifaces, laid.
  DERIVED. THE GIVEN ROWS OF THIS SEAT. 8 by the template 'for every input the law returns true; each argument reads behind the call as it read before'; 0 by the template 'total and deterministic' (their statements: YthkbllkhomjmbaaDoorTotals.lean).
  GIVEN WITH THE SEED: the statements are not yours to turn. If you find one false, say at which input.
  Laid BY PROGRAM, IN A SANDBOX (cutbox-rows.mjs): the forced cells as the released guide's own fill.sh prints them over the translation 4077e4168a56328e… (all of the seat's roots in one cut). By AI agents, Wed Nov 11 2026. No macro, syntax, notation, axiom, sorry.
-/
import Derived.Test.YthkbllkhomjmbaaDoorChecked
import GoSem.Claim
import GoSem.ClaimJoined
import GoSem.ClaimMapViews
import Derived.JoinedTies
import Derived.KernelRfl
namespace Go.Proofs.YthkbllkhomjmbaaDoor
/- THE CELL 'sum', in the pinned program and in every row, IS THE sha256 OF THE DUMP (.gsa) THAT YthkbllkhomjmbaaDoorProg.lean LOADS. Nothing in Lean hashes anything: it is a label: what it is worth is what the hold of that sum in a sandbox is worth. -/
noncomputable def Tryd.pinned : Pinned := { name := "ythkbllkhomjmbaadoor", sum := "4077e4168a56328eaf8ce50d61aaa3a829d0e9391d66e1f2620568fce324e064", checked := Tryd.checked }
namespace Rows
def none {H : Type} : Left H := { results := [], args := [] }

/- WHAT THE LISTED PACKAGE-LEVEL VARIABLES READ AS WHEN THE CALL BEGINS. Each datum BY PROGRAM (the guide's laid-datum.mjs) off the statement by which the dump's own 'gosem.cut.vars' lays the variable. In a bare row this is a premise. The card (YthkbllkhomjmbaaDoorCards.lean) ties it to the program's text. -/
def laid_errors_errorType {H : Type} : DataW H := .iface "internal/reflectlite.rtype" (.agg [.ptr (.lit (.string [101, 114, 114, 111, 114]))])
def laid_loop_example_g00668_impl_errSealSize {H : Type} : DataW H := .iface "*errors.errorString" (.ptr (.agg [.lit (.string [116, 104, 101, 32, 115, 116, 114, 105, 110, 103, 32, 105, 115, 32, 108, 111, 110, 103, 101, 114, 32, 116, 104, 97, 110, 32, 97, 110, 121, 32, 109, 97, 121, 32, 98, 101])]))
def laid_loop_example_g00668_impl_errSealShort {H : Type} : DataW H := .iface "*errors.errorString" (.ptr (.agg [.lit (.string [116, 104, 101, 32, 115, 116, 114, 105, 110, 103, 32, 104, 97, 115, 32, 110, 111, 32, 114, 111, 111, 109, 32, 102, 111, 114, 32, 97, 32, 99, 104, 101, 99, 107, 115, 117, 109])]))
def laid_loop_example_g00668_impl_errSealSum {H : Type} : DataW H := .iface "*errors.errorString" (.ptr (.agg [.lit (.string [116, 104, 101, 32, 115, 116, 114, 105, 110, 103, 32, 104, 97, 115, 32, 97, 32, 119, 114, 111, 110, 103, 32, 99, 104, 101, 99, 107, 115, 117, 109])]))
def laid_loop_example_g00668_impl_errCopyContents {H : Type} : DataW H := .iface "*errors.errorString" (.ptr (.agg [.lit (.string [116, 104, 101, 32, 99, 111, 112, 121, 32, 99, 111, 110, 116, 97, 105, 110, 115, 32, 115, 111, 109, 101, 116, 104, 105, 110, 103, 32, 101, 108, 115, 101])]))
def laid_loop_example_g00668_impl_errNoCopy {H : Type} : DataW H := .iface "*errors.errorString" (.ptr (.agg [.lit (.string [110, 101, 105, 116, 104, 101, 114, 32, 115, 101, 99, 116, 111, 114, 32, 104, 97, 115, 32, 97, 32, 99, 111, 112, 121])]))
def laid_loop_example_g00668_impl_errNoPlace {H : Type} : DataW H := .iface "*errors.errorString" (.ptr (.agg [.lit (.string [116, 104, 101, 32, 102, 108, 97, 115, 104, 32, 99, 97, 110, 110, 111, 116, 32, 104, 97, 118, 101, 32, 116, 119, 111, 32, 99, 111, 112, 105, 101, 115])]))

/-- 'laws.FnNums': WHATEVER THE INPUT: true; the input reads as it did. -/
def fnNumsSpec : ChangeSpec := { name := "fnNums", fn := fun _ => fun
  | [d1, d2] => { results := [.lit (.bool true)], args := [d1, d2] }
  | _ => none }
def fnNumsRow : OpenClaim := { program := "ythkbllkhomjmbaadoor", sum := "4077e4168a56328eaf8ce50d61aaa3a829d0e9391d66e1f2620568fce324e064", func := "loop.example/g00668/laws.FnNums", spec := "fnNums", inPlace := ["internal/reflectlite.ValueOf", "(internal/reflectlite.Value).Type", "(internal/reflectlite.Value).IsNil", "internal/reflectlite.TypeOf", "(internal/reflectlite.Value).Elem", "(internal/reflectlite.Value).Set"], unfollowed := true, recurses := true, named := ["errors.errorType"], apart := false, laid := [("errors.errorType", laid_errors_errorType)] }
def FnNumsSaid : Prop := fnNumsRow.holds Tryd.pinned (OpenSpec.ofChange fnNumsSpec)

/-- ITS FALSE NEIGHBOUR: 'it returns false'. Refute it at one input. -/
def fnNumsWrong : ChangeSpec := { name := "fnNums", fn := fun _ => fun
  | [d1, d2] => { results := [.lit (.bool false)], args := [d1, d2] }
  | _ => none }
def FnNumsWrongFalsely : Prop := fnNumsRow.holds Tryd.pinned (OpenSpec.ofChange fnNumsWrong)

/-- 'laws.FnSeal': WHATEVER THE INPUT: true; the input reads as it did. -/
def fnSealSpec : ChangeSpec := { name := "fnSeal", vars := ["loop.example/g00668/impl.errSealSize", "loop.example/g00668/impl.errSealShort", "loop.example/g00668/impl.errSealSum"], fn := fun _ => fun
  | [d1, d2, g1, g2, g3] => { results := [.lit (.bool true)], args := [d1, d2], vars := [g1, g2, g3] }
  | _ => none }
def fnSealRow : OpenClaim := { program := "ythkbllkhomjmbaadoor", sum := "4077e4168a56328eaf8ce50d61aaa3a829d0e9391d66e1f2620568fce324e064", func := "loop.example/g00668/laws.FnSeal", spec := "fnSeal", inPlace := ["internal/reflectlite.TypeOf"], unfollowed := true, recurses := true, named := ["loop.example/g00668/impl.errSealSize", "loop.example/g00668/impl.errSealShort", "loop.example/g00668/impl.errSealSum"], ifaces := true, apart := false, laid := [("loop.example/g00668/impl.errSealSize", laid_loop_example_g00668_impl_errSealSize), ("loop.example/g00668/impl.errSealShort", laid_loop_example_g00668_impl_errSealShort), ("loop.example/g00668/impl.errSealSum", laid_loop_example_g00668_impl_errSealSum)] }
def FnSealSaid : Prop := fnSealRow.holds Tryd.pinned (OpenSpec.ofChange fnSealSpec)

/-- ITS FALSE NEIGHBOUR: 'it returns false'. Refute it at one input. -/
def fnSealWrong : ChangeSpec := { name := "fnSeal", vars := ["loop.example/g00668/impl.errSealSize", "loop.example/g00668/impl.errSealShort", "loop.example/g00668/impl.errSealSum"], fn := fun _ => fun
  | [d1, d2, g1, g2, g3] => { results := [.lit (.bool false)], args := [d1, d2], vars := [g1, g2, g3] }
  | _ => none }
def FnSealWrongFalsely : Prop := fnSealRow.holds Tryd.pinned (OpenSpec.ofChange fnSealWrong)

/-- 'laws.FnStep': WHATEVER THE INPUT: true; the input reads as it did. -/
def fnStepSpec : ChangeSpec := { name := "fnStep", fn := fun _ => fun
  | [d1, d2] => { results := [.lit (.bool true)], args := [d1, d2] }
  | _ => none }
def fnStepRow : OpenClaim := { program := "ythkbllkhomjmbaadoor", sum := "4077e4168a56328eaf8ce50d61aaa3a829d0e9391d66e1f2620568fce324e064", func := "loop.example/g00668/laws.FnStep", spec := "fnStep", inPlace := ["internal/reflectlite.ValueOf", "(internal/reflectlite.Value).Type", "(internal/reflectlite.Value).IsNil", "internal/reflectlite.TypeOf", "(internal/reflectlite.Value).Elem", "(internal/reflectlite.Value).Set"], unfollowed := true, recurses := true, named := ["errors.errorType"], apart := false, laid := [("errors.errorType", laid_errors_errorType)] }
def FnStepSaid : Prop := fnStepRow.holds Tryd.pinned (OpenSpec.ofChange fnStepSpec)

/-- ITS FALSE NEIGHBOUR: 'it returns false'. Refute it at one input. -/
def fnStepWrong : ChangeSpec := { name := "fnStep", fn := fun _ => fun
  | [d1, d2] => { results := [.lit (.bool false)], args := [d1, d2] }
  | _ => none }
def FnStepWrongFalsely : Prop := fnStepRow.holds Tryd.pinned (OpenSpec.ofChange fnStepWrong)

/-- 'laws.FnExactUnseal': WHATEVER THE INPUT: true; the input reads as it did. -/
def fnExactUnsealSpec : ChangeSpec := { name := "fnExactUnseal", vars := ["loop.example/g00668/impl.errSealSize", "loop.example/g00668/impl.errSealShort", "loop.example/g00668/impl.errSealSum"], fn := fun _ => fun
  | [d, g1, g2, g3] => { results := [.lit (.bool true)], args := [d], vars := [g1, g2, g3] }
  | _ => none }
def fnExactUnsealRow : OpenClaim := { program := "ythkbllkhomjmbaadoor", sum := "4077e4168a56328eaf8ce50d61aaa3a829d0e9391d66e1f2620568fce324e064", func := "loop.example/g00668/laws.FnExactUnseal", spec := "fnExactUnseal", inPlace := ["internal/reflectlite.TypeOf"], unfollowed := true, recurses := true, named := ["loop.example/g00668/impl.errSealSize", "loop.example/g00668/impl.errSealShort", "loop.example/g00668/impl.errSealSum"], ifaces := true, apart := false, laid := [("loop.example/g00668/impl.errSealSize", laid_loop_example_g00668_impl_errSealSize), ("loop.example/g00668/impl.errSealShort", laid_loop_example_g00668_impl_errSealShort), ("loop.example/g00668/impl.errSealSum", laid_loop_example_g00668_impl_errSealSum)] }
def FnExactUnsealSaid : Prop := fnExactUnsealRow.holds Tryd.pinned (OpenSpec.ofChange fnExactUnsealSpec)

/-- ITS FALSE NEIGHBOUR: 'it returns false'. Refute it at one input. -/
def fnExactUnsealWrong : ChangeSpec := { name := "fnExactUnseal", vars := ["loop.example/g00668/impl.errSealSize", "loop.example/g00668/impl.errSealShort", "loop.example/g00668/impl.errSealSum"], fn := fun _ => fun
  | [d, g1, g2, g3] => { results := [.lit (.bool false)], args := [d], vars := [g1, g2, g3] }
  | _ => none }
def FnExactUnsealWrongFalsely : Prop := fnExactUnsealRow.holds Tryd.pinned (OpenSpec.ofChange fnExactUnsealWrong)

/-- 'laws.FnExactMetaRead': WHATEVER THE INPUT: true; the input reads as it did. -/
def fnExactMetaReadSpec : ChangeSpec := { name := "fnExactMetaRead", vars := ["loop.example/g00668/impl.errCopyContents", "loop.example/g00668/impl.errSealSize", "loop.example/g00668/impl.errSealShort", "loop.example/g00668/impl.errSealSum", "loop.example/g00668/impl.errNoPlace", "loop.example/g00668/impl.errNoCopy"], fn := fun _ => fun
  | [d, g1, g2, g3, g4, g5, g6] => { results := [.lit (.bool true)], args := [d], vars := [g1, g2, g3, g4, g5, g6] }
  | _ => none }
def fnExactMetaReadRow : OpenClaim := { program := "ythkbllkhomjmbaadoor", sum := "4077e4168a56328eaf8ce50d61aaa3a829d0e9391d66e1f2620568fce324e064", func := "loop.example/g00668/laws.FnExactMetaRead", spec := "fnExactMetaRead", inPlace := ["internal/reflectlite.ValueOf", "(internal/reflectlite.Value).Type", "(internal/reflectlite.Value).IsNil", "internal/reflectlite.TypeOf", "(internal/reflectlite.Value).Elem", "(internal/reflectlite.Value).Set"], unfollowed := true, recurses := true, named := ["loop.example/g00668/impl.errCopyContents", "loop.example/g00668/impl.errSealSize", "loop.example/g00668/impl.errSealShort", "loop.example/g00668/impl.errSealSum", "errors.errorType", "loop.example/g00668/impl.errNoPlace", "loop.example/g00668/impl.errNoCopy"], ifaces := true, apart := false, laid := [("errors.errorType", laid_errors_errorType), ("loop.example/g00668/impl.errSealSize", laid_loop_example_g00668_impl_errSealSize), ("loop.example/g00668/impl.errSealShort", laid_loop_example_g00668_impl_errSealShort), ("loop.example/g00668/impl.errSealSum", laid_loop_example_g00668_impl_errSealSum), ("loop.example/g00668/impl.errCopyContents", laid_loop_example_g00668_impl_errCopyContents), ("loop.example/g00668/impl.errNoCopy", laid_loop_example_g00668_impl_errNoCopy), ("loop.example/g00668/impl.errNoPlace", laid_loop_example_g00668_impl_errNoPlace)] }
def FnExactMetaReadSaid : Prop := fnExactMetaReadRow.holds Tryd.pinned (OpenSpec.ofChange fnExactMetaReadSpec)

/-- ITS FALSE NEIGHBOUR: 'it returns false'. Refute it at one input. -/
def fnExactMetaReadWrong : ChangeSpec := { name := "fnExactMetaRead", vars := ["loop.example/g00668/impl.errCopyContents", "loop.example/g00668/impl.errSealSize", "loop.example/g00668/impl.errSealShort", "loop.example/g00668/impl.errSealSum", "loop.example/g00668/impl.errNoPlace", "loop.example/g00668/impl.errNoCopy"], fn := fun _ => fun
  | [d, g1, g2, g3, g4, g5, g6] => { results := [.lit (.bool false)], args := [d], vars := [g1, g2, g3, g4, g5, g6] }
  | _ => none }
def FnExactMetaReadWrongFalsely : Prop := fnExactMetaReadRow.holds Tryd.pinned (OpenSpec.ofChange fnExactMetaReadWrong)

/-- 'laws.FnExactStepRead': WHATEVER THE INPUT: true; the input reads as it did. -/
def fnExactStepReadSpec : ChangeSpec := { name := "fnExactStepRead", fn := fun _ => fun
  | [d] => { results := [.lit (.bool true)], args := [d] }
  | _ => none }
def fnExactStepReadRow : OpenClaim := { program := "ythkbllkhomjmbaadoor", sum := "4077e4168a56328eaf8ce50d61aaa3a829d0e9391d66e1f2620568fce324e064", func := "loop.example/g00668/laws.FnExactStepRead", spec := "fnExactStepRead", inPlace := ["internal/reflectlite.ValueOf", "(internal/reflectlite.Value).Type", "(internal/reflectlite.Value).IsNil", "internal/reflectlite.TypeOf", "(internal/reflectlite.Value).Elem", "(internal/reflectlite.Value).Set"], unfollowed := true, recurses := true, named := ["errors.errorType"], apart := false, laid := [("errors.errorType", laid_errors_errorType)] }
def FnExactStepReadSaid : Prop := fnExactStepReadRow.holds Tryd.pinned (OpenSpec.ofChange fnExactStepReadSpec)

/-- ITS FALSE NEIGHBOUR: 'it returns false'. Refute it at one input. -/
def fnExactStepReadWrong : ChangeSpec := { name := "fnExactStepRead", fn := fun _ => fun
  | [d] => { results := [.lit (.bool false)], args := [d] }
  | _ => none }
def FnExactStepReadWrongFalsely : Prop := fnExactStepReadRow.holds Tryd.pinned (OpenSpec.ofChange fnExactStepReadWrong)

/-- 'laws.FnExactRecordRead': WHATEVER THE INPUT: true; the input reads as it did. -/
def fnExactRecordReadSpec : ChangeSpec := { name := "fnExactRecordRead", vars := ["loop.example/g00668/impl.errSealSize", "loop.example/g00668/impl.errSealShort", "loop.example/g00668/impl.errSealSum"], fn := fun _ => fun
  | [d1, d2, g1, g2, g3] => { results := [.lit (.bool true)], args := [d1, d2], vars := [g1, g2, g3] }
  | _ => none }
def fnExactRecordReadRow : OpenClaim := { program := "ythkbllkhomjmbaadoor", sum := "4077e4168a56328eaf8ce50d61aaa3a829d0e9391d66e1f2620568fce324e064", func := "loop.example/g00668/laws.FnExactRecordRead", spec := "fnExactRecordRead", inPlace := ["internal/reflectlite.TypeOf", "internal/reflectlite.ValueOf", "(internal/reflectlite.Value).Type", "(internal/reflectlite.Value).IsNil", "(internal/reflectlite.Value).Elem", "(internal/reflectlite.Value).Set"], unfollowed := true, recurses := true, named := ["loop.example/g00668/impl.errSealSize", "loop.example/g00668/impl.errSealShort", "loop.example/g00668/impl.errSealSum", "errors.errorType"], ifaces := true, apart := false, laid := [("errors.errorType", laid_errors_errorType), ("loop.example/g00668/impl.errSealSize", laid_loop_example_g00668_impl_errSealSize), ("loop.example/g00668/impl.errSealShort", laid_loop_example_g00668_impl_errSealShort), ("loop.example/g00668/impl.errSealSum", laid_loop_example_g00668_impl_errSealSum)] }
def FnExactRecordReadSaid : Prop := fnExactRecordReadRow.holds Tryd.pinned (OpenSpec.ofChange fnExactRecordReadSpec)

/-- ITS FALSE NEIGHBOUR: 'it returns false'. Refute it at one input. -/
def fnExactRecordReadWrong : ChangeSpec := { name := "fnExactRecordRead", vars := ["loop.example/g00668/impl.errSealSize", "loop.example/g00668/impl.errSealShort", "loop.example/g00668/impl.errSealSum"], fn := fun _ => fun
  | [d1, d2, g1, g2, g3] => { results := [.lit (.bool false)], args := [d1, d2], vars := [g1, g2, g3] }
  | _ => none }
def FnExactRecordReadWrongFalsely : Prop := fnExactRecordReadRow.holds Tryd.pinned (OpenSpec.ofChange fnExactRecordReadWrong)

/-- 'laws.FnExactScan': WHATEVER THE INPUT: true; the input reads as it did. -/
def fnExactScanSpec : ChangeSpec := { name := "fnExactScan", vars := ["loop.example/g00668/impl.errSealSize", "loop.example/g00668/impl.errSealShort", "loop.example/g00668/impl.errSealSum"], fn := fun _ => fun
  | [d, g1, g2, g3] => { results := [.lit (.bool true)], args := [d], vars := [g1, g2, g3] }
  | _ => none }
def fnExactScanRow : OpenClaim := { program := "ythkbllkhomjmbaadoor", sum := "4077e4168a56328eaf8ce50d61aaa3a829d0e9391d66e1f2620568fce324e064", func := "loop.example/g00668/laws.FnExactScan", spec := "fnExactScan", inPlace := ["internal/reflectlite.TypeOf", "internal/reflectlite.ValueOf", "(internal/reflectlite.Value).Type", "(internal/reflectlite.Value).IsNil", "(internal/reflectlite.Value).Elem", "(internal/reflectlite.Value).Set"], unfollowed := true, recurses := true, named := ["loop.example/g00668/impl.errSealSize", "loop.example/g00668/impl.errSealShort", "loop.example/g00668/impl.errSealSum", "errors.errorType"], ifaces := true, apart := false, laid := [("errors.errorType", laid_errors_errorType), ("loop.example/g00668/impl.errSealSize", laid_loop_example_g00668_impl_errSealSize), ("loop.example/g00668/impl.errSealShort", laid_loop_example_g00668_impl_errSealShort), ("loop.example/g00668/impl.errSealSum", laid_loop_example_g00668_impl_errSealSum)] }
def FnExactScanSaid : Prop := fnExactScanRow.holds Tryd.pinned (OpenSpec.ofChange fnExactScanSpec)

/-- ITS FALSE NEIGHBOUR: 'it returns false'. Refute it at one input. -/
def fnExactScanWrong : ChangeSpec := { name := "fnExactScan", vars := ["loop.example/g00668/impl.errSealSize", "loop.example/g00668/impl.errSealShort", "loop.example/g00668/impl.errSealSum"], fn := fun _ => fun
  | [d, g1, g2, g3] => { results := [.lit (.bool false)], args := [d], vars := [g1, g2, g3] }
  | _ => none }
def FnExactScanWrongFalsely : Prop := fnExactScanRow.holds Tryd.pinned (OpenSpec.ofChange fnExactScanWrong)

/- THE SECOND FORM. 'bulk': how many values and letters a reading holds, each counted each time it is reached (what is shared counts as often as it is met; a slice's spare places count too). A statement '..UptoSaid' is the law's where the arguments, and the package variables that the reading takes, are together of bulk at most 1048576: NARROWER than '..Said'. Prove '..Said' where nothing that the law and all that it calls make is longer than what came in: it says more and counts as full. Else prove '..UptoSaid'. A law counts once. -/
mutual
def uptoBulk {H : Type} : DataW H → Nat
  | .lit (.string bytes) => bytes.length + 1
  | .lit _ => 1
  | .nil => 1
  | .ptr d => uptoBulk d + 1
  | .slice elems spare => uptoBulkAll elems + uptoBulkAll spare + 1
  | .agg parts => uptoBulkAll parts + 1
  | .iface _ d => uptoBulk d + 1
  | .map entries => uptoBulkEntries entries + 1
  | .held _ => 1
def uptoBulkAll {H : Type} : List (DataW H) → Nat
  | [] => 0
  | d :: r => uptoBulk d + uptoBulkAll r
def uptoBulkEntries {H : Type} : List (Lit × DataW H) → Nat
  | [] => 0
  | x :: r => uptoBulkEntry x + uptoBulkEntries r
def uptoBulkEntry {H : Type} : Lit × DataW H → Nat
  | (.string bytes, d) => bytes.length + uptoBulk d + 1
  | (_, d) => uptoBulk d + 1
 end
def uptoSmall : (H : Type) → List (DataW H) → Bool := fun _ ds => decide (uptoBulkAll ds ≤ 1048576)
def OpenSpec.upto (s : _root_.Go.ChangeSpec) : _root_.Go.OpenSpec := { _root_.Go.OpenSpec.ofChange s with cond := some uptoSmall }

/-- 'laws.FnNums', WHERE WHAT IT READS IS OF BULK AT MOST 1048576: true; the input reads as it did. -/
def fnNumsUptoRow : OpenClaim := { program := "ythkbllkhomjmbaadoor", sum := "4077e4168a56328eaf8ce50d61aaa3a829d0e9391d66e1f2620568fce324e064", func := "loop.example/g00668/laws.FnNums", spec := "fnNums", inPlace := ["internal/reflectlite.ValueOf", "(internal/reflectlite.Value).Type", "(internal/reflectlite.Value).IsNil", "internal/reflectlite.TypeOf", "(internal/reflectlite.Value).Elem", "(internal/reflectlite.Value).Set"], unfollowed := true, recurses := true, named := ["errors.errorType"], apart := false, laid := [("errors.errorType", laid_errors_errorType)], narrowed := true }
def FnNumsUptoSaid : Prop := fnNumsUptoRow.holds Tryd.pinned (OpenSpec.upto fnNumsSpec)

/-- 'laws.FnSeal', WHERE WHAT IT READS IS OF BULK AT MOST 1048576: true; the input reads as it did. -/
def fnSealUptoRow : OpenClaim := { program := "ythkbllkhomjmbaadoor", sum := "4077e4168a56328eaf8ce50d61aaa3a829d0e9391d66e1f2620568fce324e064", func := "loop.example/g00668/laws.FnSeal", spec := "fnSeal", inPlace := ["internal/reflectlite.TypeOf"], unfollowed := true, recurses := true, named := ["loop.example/g00668/impl.errSealSize", "loop.example/g00668/impl.errSealShort", "loop.example/g00668/impl.errSealSum"], ifaces := true, apart := false, laid := [("loop.example/g00668/impl.errSealSize", laid_loop_example_g00668_impl_errSealSize), ("loop.example/g00668/impl.errSealShort", laid_loop_example_g00668_impl_errSealShort), ("loop.example/g00668/impl.errSealSum", laid_loop_example_g00668_impl_errSealSum)], narrowed := true }
def FnSealUptoSaid : Prop := fnSealUptoRow.holds Tryd.pinned (OpenSpec.upto fnSealSpec)

/-- 'laws.FnStep', WHERE WHAT IT READS IS OF BULK AT MOST 1048576: true; the input reads as it did. -/
def fnStepUptoRow : OpenClaim := { program := "ythkbllkhomjmbaadoor", sum := "4077e4168a56328eaf8ce50d61aaa3a829d0e9391d66e1f2620568fce324e064", func := "loop.example/g00668/laws.FnStep", spec := "fnStep", inPlace := ["internal/reflectlite.ValueOf", "(internal/reflectlite.Value).Type", "(internal/reflectlite.Value).IsNil", "internal/reflectlite.TypeOf", "(internal/reflectlite.Value).Elem", "(internal/reflectlite.Value).Set"], unfollowed := true, recurses := true, named := ["errors.errorType"], apart := false, laid := [("errors.errorType", laid_errors_errorType)], narrowed := true }
def FnStepUptoSaid : Prop := fnStepUptoRow.holds Tryd.pinned (OpenSpec.upto fnStepSpec)

/-- 'laws.FnExactUnseal', WHERE WHAT IT READS IS OF BULK AT MOST 1048576: true; the input reads as it did. -/
def fnExactUnsealUptoRow : OpenClaim := { program := "ythkbllkhomjmbaadoor", sum := "4077e4168a56328eaf8ce50d61aaa3a829d0e9391d66e1f2620568fce324e064", func := "loop.example/g00668/laws.FnExactUnseal", spec := "fnExactUnseal", inPlace := ["internal/reflectlite.TypeOf"], unfollowed := true, recurses := true, named := ["loop.example/g00668/impl.errSealSize", "loop.example/g00668/impl.errSealShort", "loop.example/g00668/impl.errSealSum"], ifaces := true, apart := false, laid := [("loop.example/g00668/impl.errSealSize", laid_loop_example_g00668_impl_errSealSize), ("loop.example/g00668/impl.errSealShort", laid_loop_example_g00668_impl_errSealShort), ("loop.example/g00668/impl.errSealSum", laid_loop_example_g00668_impl_errSealSum)], narrowed := true }
def FnExactUnsealUptoSaid : Prop := fnExactUnsealUptoRow.holds Tryd.pinned (OpenSpec.upto fnExactUnsealSpec)

/-- 'laws.FnExactMetaRead', WHERE WHAT IT READS IS OF BULK AT MOST 1048576: true; the input reads as it did. -/
def fnExactMetaReadUptoRow : OpenClaim := { program := "ythkbllkhomjmbaadoor", sum := "4077e4168a56328eaf8ce50d61aaa3a829d0e9391d66e1f2620568fce324e064", func := "loop.example/g00668/laws.FnExactMetaRead", spec := "fnExactMetaRead", inPlace := ["internal/reflectlite.ValueOf", "(internal/reflectlite.Value).Type", "(internal/reflectlite.Value).IsNil", "internal/reflectlite.TypeOf", "(internal/reflectlite.Value).Elem", "(internal/reflectlite.Value).Set"], unfollowed := true, recurses := true, named := ["loop.example/g00668/impl.errCopyContents", "loop.example/g00668/impl.errSealSize", "loop.example/g00668/impl.errSealShort", "loop.example/g00668/impl.errSealSum", "errors.errorType", "loop.example/g00668/impl.errNoPlace", "loop.example/g00668/impl.errNoCopy"], ifaces := true, apart := false, laid := [("errors.errorType", laid_errors_errorType), ("loop.example/g00668/impl.errSealSize", laid_loop_example_g00668_impl_errSealSize), ("loop.example/g00668/impl.errSealShort", laid_loop_example_g00668_impl_errSealShort), ("loop.example/g00668/impl.errSealSum", laid_loop_example_g00668_impl_errSealSum), ("loop.example/g00668/impl.errCopyContents", laid_loop_example_g00668_impl_errCopyContents), ("loop.example/g00668/impl.errNoCopy", laid_loop_example_g00668_impl_errNoCopy), ("loop.example/g00668/impl.errNoPlace", laid_loop_example_g00668_impl_errNoPlace)], narrowed := true }
def FnExactMetaReadUptoSaid : Prop := fnExactMetaReadUptoRow.holds Tryd.pinned (OpenSpec.upto fnExactMetaReadSpec)

/-- 'laws.FnExactStepRead', WHERE WHAT IT READS IS OF BULK AT MOST 1048576: true; the input reads as it did. -/
def fnExactStepReadUptoRow : OpenClaim := { program := "ythkbllkhomjmbaadoor", sum := "4077e4168a56328eaf8ce50d61aaa3a829d0e9391d66e1f2620568fce324e064", func := "loop.example/g00668/laws.FnExactStepRead", spec := "fnExactStepRead", inPlace := ["internal/reflectlite.ValueOf", "(internal/reflectlite.Value).Type", "(internal/reflectlite.Value).IsNil", "internal/reflectlite.TypeOf", "(internal/reflectlite.Value).Elem", "(internal/reflectlite.Value).Set"], unfollowed := true, recurses := true, named := ["errors.errorType"], apart := false, laid := [("errors.errorType", laid_errors_errorType)], narrowed := true }
def FnExactStepReadUptoSaid : Prop := fnExactStepReadUptoRow.holds Tryd.pinned (OpenSpec.upto fnExactStepReadSpec)

/-- 'laws.FnExactRecordRead', WHERE WHAT IT READS IS OF BULK AT MOST 1048576: true; the input reads as it did. -/
def fnExactRecordReadUptoRow : OpenClaim := { program := "ythkbllkhomjmbaadoor", sum := "4077e4168a56328eaf8ce50d61aaa3a829d0e9391d66e1f2620568fce324e064", func := "loop.example/g00668/laws.FnExactRecordRead", spec := "fnExactRecordRead", inPlace := ["internal/reflectlite.TypeOf", "internal/reflectlite.ValueOf", "(internal/reflectlite.Value).Type", "(internal/reflectlite.Value).IsNil", "(internal/reflectlite.Value).Elem", "(internal/reflectlite.Value).Set"], unfollowed := true, recurses := true, named := ["loop.example/g00668/impl.errSealSize", "loop.example/g00668/impl.errSealShort", "loop.example/g00668/impl.errSealSum", "errors.errorType"], ifaces := true, apart := false, laid := [("errors.errorType", laid_errors_errorType), ("loop.example/g00668/impl.errSealSize", laid_loop_example_g00668_impl_errSealSize), ("loop.example/g00668/impl.errSealShort", laid_loop_example_g00668_impl_errSealShort), ("loop.example/g00668/impl.errSealSum", laid_loop_example_g00668_impl_errSealSum)], narrowed := true }
def FnExactRecordReadUptoSaid : Prop := fnExactRecordReadUptoRow.holds Tryd.pinned (OpenSpec.upto fnExactRecordReadSpec)

/-- 'laws.FnExactScan', WHERE WHAT IT READS IS OF BULK AT MOST 1048576: true; the input reads as it did. -/
def fnExactScanUptoRow : OpenClaim := { program := "ythkbllkhomjmbaadoor", sum := "4077e4168a56328eaf8ce50d61aaa3a829d0e9391d66e1f2620568fce324e064", func := "loop.example/g00668/laws.FnExactScan", spec := "fnExactScan", inPlace := ["internal/reflectlite.TypeOf", "internal/reflectlite.ValueOf", "(internal/reflectlite.Value).Type", "(internal/reflectlite.Value).IsNil", "(internal/reflectlite.Value).Elem", "(internal/reflectlite.Value).Set"], unfollowed := true, recurses := true, named := ["loop.example/g00668/impl.errSealSize", "loop.example/g00668/impl.errSealShort", "loop.example/g00668/impl.errSealSum", "errors.errorType"], ifaces := true, apart := false, laid := [("errors.errorType", laid_errors_errorType), ("loop.example/g00668/impl.errSealSize", laid_loop_example_g00668_impl_errSealSize), ("loop.example/g00668/impl.errSealShort", laid_loop_example_g00668_impl_errSealShort), ("loop.example/g00668/impl.errSealSum", laid_loop_example_g00668_impl_errSealSum)], narrowed := true }
def FnExactScanUptoSaid : Prop := fnExactScanUptoRow.holds Tryd.pinned (OpenSpec.upto fnExactScanSpec)

end Rows
end Go.Proofs.YthkbllkhomjmbaaDoor
