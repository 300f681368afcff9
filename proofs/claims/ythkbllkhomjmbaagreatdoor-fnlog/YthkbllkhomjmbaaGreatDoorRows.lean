/-
  NARROWER THAN 'FOR EVERY INPUT', by the rows' own cells (each row's printed sentence says how): FnPackage: ifaces, laid · FnLog: ifaces, laid.
  DERIVED. THE GIVEN ROWS OF THIS SEAT. 2 by the template 'for every input the law returns true; each argument reads behind the call as it read before'; 0 by the template 'total and deterministic' (their statements: YthkbllkhomjmbaaGreatDoorTotals.lean).
  GIVEN WITH THE SEED: the statements are not yours to turn. If you find one false, say at which input.
  Laid BY PROGRAM, IN A SANDBOX (cutbox-rows.mjs): the forced cells as the released guide's own fill.sh prints them over the translation 1e90a38b75c5632a… (all of the seat's roots in one cut). By AI agents, Wed Nov 11 2026. No macro, syntax, notation, axiom, sorry.
-/
import Derived.Test.YthkbllkhomjmbaaGreatDoorChecked
import GoSem.Claim
import GoSem.ClaimJoined
import GoSem.ClaimMapViews
import Derived.JoinedTies
import Derived.KernelRfl
namespace Go.Proofs.YthkbllkhomjmbaaGreatDoor
/- THE CELL 'sum', in the pinned program and in every row, IS THE sha256 OF THE DUMP (.gsa) THAT YthkbllkhomjmbaaGreatDoorProg.lean LOADS. Nothing in Lean hashes anything: it is a label: what it is worth is what the hold of that sum in a sandbox is worth. -/
noncomputable def Tryz.pinned : Pinned := { name := "ythkbllkhomjmbaagreatdoor", sum := "1e90a38b75c5632a9480d35f2e78d4482a38bed481134f48a2713dd6e4caea71", checked := Tryz.checked }
namespace Rows
def none {H : Type} : Left H := { results := [], args := [] }

/- WHAT THE LISTED PACKAGE-LEVEL VARIABLES READ AS WHEN THE CALL BEGINS. Each datum BY PROGRAM (the guide's laid-datum.mjs) off the statement by which the dump's own 'gosem.cut.vars' lays the variable. In a bare row this is a premise. The card (YthkbllkhomjmbaaGreatDoorCards.lean) ties it to the program's text. -/
def laid_errors_errorType {H : Type} : DataW H := .iface "internal/reflectlite.rtype" (.agg [.ptr (.lit (.string [101, 114, 114, 111, 114]))])
def laid_loop_example_g00668_impl_errSealSize {H : Type} : DataW H := .iface "*errors.errorString" (.ptr (.agg [.lit (.string [116, 104, 101, 32, 115, 116, 114, 105, 110, 103, 32, 105, 115, 32, 108, 111, 110, 103, 101, 114, 32, 116, 104, 97, 110, 32, 97, 110, 121, 32, 109, 97, 121, 32, 98, 101])]))
def laid_loop_example_g00668_impl_errSealShort {H : Type} : DataW H := .iface "*errors.errorString" (.ptr (.agg [.lit (.string [116, 104, 101, 32, 115, 116, 114, 105, 110, 103, 32, 104, 97, 115, 32, 110, 111, 32, 114, 111, 111, 109, 32, 102, 111, 114, 32, 97, 32, 99, 104, 101, 99, 107, 115, 117, 109])]))
def laid_loop_example_g00668_impl_errSealSum {H : Type} : DataW H := .iface "*errors.errorString" (.ptr (.agg [.lit (.string [116, 104, 101, 32, 115, 116, 114, 105, 110, 103, 32, 104, 97, 115, 32, 97, 32, 119, 114, 111, 110, 103, 32, 99, 104, 101, 99, 107, 115, 117, 109])]))
def laid_loop_example_g00668_impl_digestStart {H : Type} : DataW H := .agg [.lit (.int .u32 1779033703), .lit (.int .u32 3144134277), .lit (.int .u32 1013904242), .lit (.int .u32 2773480762), .lit (.int .u32 1359893119), .lit (.int .u32 2600822924), .lit (.int .u32 528734635), .lit (.int .u32 1541459225)]
def laid_loop_example_g00668_impl_digestSummands {H : Type} : DataW H := .agg [.lit (.int .u32 1116352408), .lit (.int .u32 1899447441), .lit (.int .u32 3049323471), .lit (.int .u32 3921009573), .lit (.int .u32 961987163), .lit (.int .u32 1508970993), .lit (.int .u32 2453635748), .lit (.int .u32 2870763221), .lit (.int .u32 3624381080), .lit (.int .u32 310598401), .lit (.int .u32 607225278), .lit (.int .u32 1426881987), .lit (.int .u32 1925078388), .lit (.int .u32 2162078206), .lit (.int .u32 2614888103), .lit (.int .u32 3248222580), .lit (.int .u32 3835390401), .lit (.int .u32 4022224774), .lit (.int .u32 264347078), .lit (.int .u32 604807628), .lit (.int .u32 770255983), .lit (.int .u32 1249150122), .lit (.int .u32 1555081692), .lit (.int .u32 1996064986), .lit (.int .u32 2554220882), .lit (.int .u32 2821834349), .lit (.int .u32 2952996808), .lit (.int .u32 3210313671), .lit (.int .u32 3336571891), .lit (.int .u32 3584528711), .lit (.int .u32 113926993), .lit (.int .u32 338241895), .lit (.int .u32 666307205), .lit (.int .u32 773529912), .lit (.int .u32 1294757372), .lit (.int .u32 1396182291), .lit (.int .u32 1695183700), .lit (.int .u32 1986661051), .lit (.int .u32 2177026350), .lit (.int .u32 2456956037), .lit (.int .u32 2730485921), .lit (.int .u32 2820302411), .lit (.int .u32 3259730800), .lit (.int .u32 3345764771), .lit (.int .u32 3516065817), .lit (.int .u32 3600352804), .lit (.int .u32 4094571909), .lit (.int .u32 275423344), .lit (.int .u32 430227734), .lit (.int .u32 506948616), .lit (.int .u32 659060556), .lit (.int .u32 883997877), .lit (.int .u32 958139571), .lit (.int .u32 1322822218), .lit (.int .u32 1537002063), .lit (.int .u32 1747873779), .lit (.int .u32 1955562222), .lit (.int .u32 2024104815), .lit (.int .u32 2227730452), .lit (.int .u32 2361852424), .lit (.int .u32 2428436474), .lit (.int .u32 2756734187), .lit (.int .u32 3204031479), .lit (.int .u32 3329325298)]
def laid_loop_example_g00668_impl_errStepCount {H : Type} : DataW H := .iface "*errors.errorString" (.ptr (.agg [.lit (.string [116, 104, 101, 32, 110, 117, 109, 98, 101, 114, 32, 111, 102, 32, 115, 116, 101, 112, 115, 32, 105, 115, 32, 111, 117, 116, 32, 111, 102, 32, 114, 97, 110, 103, 101])]))
def laid_loop_example_g00668_impl_errNotAStep {H : Type} : DataW H := .iface "*errors.errorString" (.ptr (.agg [.lit (.string [116, 104, 101, 32, 116, 101, 120, 116, 32, 105, 115, 32, 110, 111, 116, 32, 116, 104, 97, 116, 32, 111, 102, 32, 97, 32, 115, 116, 101, 112])]))
def laid_loop_example_g00668_impl_errBehind {H : Type} : DataW H := .iface "*errors.errorString" (.ptr (.agg [.lit (.string [116, 104, 101, 114, 101, 32, 97, 114, 101, 32, 98, 121, 116, 101, 115, 32, 98, 101, 104, 105, 110, 100, 32, 116, 104, 101, 32, 108, 97, 115, 116, 32, 115, 116, 101, 112])]))
def laid_loop_example_g00668_impl_errNotValid {H : Type} : DataW H := .iface "*errors.errorString" (.ptr (.agg [.lit (.string [116, 104, 101, 32, 112, 97, 114, 116, 115, 32, 100, 111, 32, 110, 111, 116, 32, 109, 97, 107, 101, 32, 97, 32, 118, 97, 108, 105, 100, 32, 112, 97, 99, 107, 97, 103, 101])]))

/-- 'laws.FnPackage': WHATEVER THE INPUT: true; the input reads as it did. -/
def fnPackageSpec : ChangeSpec := { name := "fnPackage", vars := ["loop.example/g00668/impl.digestStart", "loop.example/g00668/impl.digestSummands", "loop.example/g00668/impl.errSealSize", "loop.example/g00668/impl.errSealShort", "loop.example/g00668/impl.errSealSum", "loop.example/g00668/impl.errStepCount", "loop.example/g00668/impl.errBehind", "loop.example/g00668/impl.errNotValid", "loop.example/g00668/impl.errNotAStep"], fn := fun _ => fun
  | [d1, d2, g1, g2, g3, g4, g5, g6, g7, g8, g9] => { results := [.lit (.bool true)], args := [d1, d2], vars := [g1, g2, g3, g4, g5, g6, g7, g8, g9] }
  | _ => none }
def fnPackageRow : OpenClaim := { program := "ythkbllkhomjmbaagreatdoor", sum := "1e90a38b75c5632a9480d35f2e78d4482a38bed481134f48a2713dd6e4caea71", func := "loop.example/g00668/laws.FnPackage", spec := "fnPackage", inPlace := ["internal/abi.NoEscape", "internal/bytealg.MakeNoZero", "internal/reflectlite.ValueOf", "(internal/reflectlite.Value).Type", "(internal/reflectlite.Value).IsNil", "internal/reflectlite.TypeOf", "(internal/reflectlite.Value).Elem", "(internal/reflectlite.Value).Set"], unfollowed := true, recurses := true, named := ["loop.example/g00668/impl.digestStart", "loop.example/g00668/impl.digestSummands", "loop.example/g00668/impl.errSealSize", "loop.example/g00668/impl.errSealShort", "loop.example/g00668/impl.errSealSum", "loop.example/g00668/impl.errStepCount", "loop.example/g00668/impl.errBehind", "loop.example/g00668/impl.errNotValid", "errors.errorType", "loop.example/g00668/impl.errNotAStep"], ifaces := true, apart := false, laid := [("errors.errorType", laid_errors_errorType), ("loop.example/g00668/impl.errSealSize", laid_loop_example_g00668_impl_errSealSize), ("loop.example/g00668/impl.errSealShort", laid_loop_example_g00668_impl_errSealShort), ("loop.example/g00668/impl.errSealSum", laid_loop_example_g00668_impl_errSealSum), ("loop.example/g00668/impl.digestStart", laid_loop_example_g00668_impl_digestStart), ("loop.example/g00668/impl.digestSummands", laid_loop_example_g00668_impl_digestSummands), ("loop.example/g00668/impl.errStepCount", laid_loop_example_g00668_impl_errStepCount), ("loop.example/g00668/impl.errNotAStep", laid_loop_example_g00668_impl_errNotAStep), ("loop.example/g00668/impl.errBehind", laid_loop_example_g00668_impl_errBehind), ("loop.example/g00668/impl.errNotValid", laid_loop_example_g00668_impl_errNotValid)] }
def FnPackageSaid : Prop := fnPackageRow.holds Tryz.pinned (OpenSpec.ofChange fnPackageSpec)

/-- ITS FALSE NEIGHBOUR: 'it returns false'. Refute it at one input. -/
def fnPackageWrong : ChangeSpec := { name := "fnPackage", vars := ["loop.example/g00668/impl.digestStart", "loop.example/g00668/impl.digestSummands", "loop.example/g00668/impl.errSealSize", "loop.example/g00668/impl.errSealShort", "loop.example/g00668/impl.errSealSum", "loop.example/g00668/impl.errStepCount", "loop.example/g00668/impl.errBehind", "loop.example/g00668/impl.errNotValid", "loop.example/g00668/impl.errNotAStep"], fn := fun _ => fun
  | [d1, d2, g1, g2, g3, g4, g5, g6, g7, g8, g9] => { results := [.lit (.bool false)], args := [d1, d2], vars := [g1, g2, g3, g4, g5, g6, g7, g8, g9] }
  | _ => none }
def FnPackageWrongFalsely : Prop := fnPackageRow.holds Tryz.pinned (OpenSpec.ofChange fnPackageWrong)

/-- 'laws.FnLog': WHATEVER THE INPUT: true; the input reads as it did. -/
def fnLogSpec : ChangeSpec := { name := "fnLog", vars := ["loop.example/g00668/impl.errSealSize", "loop.example/g00668/impl.errSealShort", "loop.example/g00668/impl.errSealSum"], fn := fun _ => fun
  | [d1, d2, g1, g2, g3] => { results := [.lit (.bool true)], args := [d1, d2], vars := [g1, g2, g3] }
  | _ => none }
def fnLogRow : OpenClaim := { program := "ythkbllkhomjmbaagreatdoor", sum := "1e90a38b75c5632a9480d35f2e78d4482a38bed481134f48a2713dd6e4caea71", func := "loop.example/g00668/laws.FnLog", spec := "fnLog", inPlace := ["internal/reflectlite.TypeOf", "internal/reflectlite.ValueOf", "(internal/reflectlite.Value).Type", "(internal/reflectlite.Value).IsNil", "(internal/reflectlite.Value).Elem", "(internal/reflectlite.Value).Set"], unfollowed := true, recurses := true, named := ["loop.example/g00668/impl.errSealSize", "loop.example/g00668/impl.errSealShort", "loop.example/g00668/impl.errSealSum", "errors.errorType"], ifaces := true, apart := false, laid := [("errors.errorType", laid_errors_errorType), ("loop.example/g00668/impl.errSealSize", laid_loop_example_g00668_impl_errSealSize), ("loop.example/g00668/impl.errSealShort", laid_loop_example_g00668_impl_errSealShort), ("loop.example/g00668/impl.errSealSum", laid_loop_example_g00668_impl_errSealSum)] }
def FnLogSaid : Prop := fnLogRow.holds Tryz.pinned (OpenSpec.ofChange fnLogSpec)

/-- ITS FALSE NEIGHBOUR: 'it returns false'. Refute it at one input. -/
def fnLogWrong : ChangeSpec := { name := "fnLog", vars := ["loop.example/g00668/impl.errSealSize", "loop.example/g00668/impl.errSealShort", "loop.example/g00668/impl.errSealSum"], fn := fun _ => fun
  | [d1, d2, g1, g2, g3] => { results := [.lit (.bool false)], args := [d1, d2], vars := [g1, g2, g3] }
  | _ => none }
def FnLogWrongFalsely : Prop := fnLogRow.holds Tryz.pinned (OpenSpec.ofChange fnLogWrong)

/- THE SECOND FORM. 'bulk': how many values and letters a reading holds, each counted each time it is reached (what is shared counts as often as it is met; a slice's spare places count too). A statement '..UptoSaid' is the law's where the arguments, and the package variables that the reading takes, are together of bulk at most 1048576: NARROWER than '..Said'. Prove '..Said' where nothing that the law and all that it calls make is longer than what came in: it says more and counts as full. Else prove '..UptoSaid'. A law counts once. -/
mutual
def uptoBulk {H : Type} : DataW H → Nat
  | .lit (.string bytes) => bytes.length + 1
  | .lit _ => 1
  | .nil => 1
  | .ptr d => uptoBulk d + 1
  | .slice elems spare => uptoBulkAll elems + uptoBulkAll spare + 1
  | .agg parts => uptoBulkAll parts + 1
  | .iface _ d => uptoBulk d + 1
  | .map entries => uptoBulkEntries entries + 1
  | .held _ => 1
def uptoBulkAll {H : Type} : List (DataW H) → Nat
  | [] => 0
  | d :: r => uptoBulk d + uptoBulkAll r
def uptoBulkEntries {H : Type} : List (Lit × DataW H) → Nat
  | [] => 0
  | x :: r => uptoBulkEntry x + uptoBulkEntries r
def uptoBulkEntry {H : Type} : Lit × DataW H → Nat
  | (.string bytes, d) => bytes.length + uptoBulk d + 1
  | (_, d) => uptoBulk d + 1
 end
def uptoSmall : (H : Type) → List (DataW H) → Bool := fun _ ds => decide (uptoBulkAll ds ≤ 1048576)
def OpenSpec.upto (s : _root_.Go.ChangeSpec) : _root_.Go.OpenSpec := { _root_.Go.OpenSpec.ofChange s with cond := some uptoSmall }

/-- 'laws.FnPackage', WHERE WHAT IT READS IS OF BULK AT MOST 1048576: true; the input reads as it did. -/
def fnPackageUptoRow : OpenClaim := { program := "ythkbllkhomjmbaagreatdoor", sum := "1e90a38b75c5632a9480d35f2e78d4482a38bed481134f48a2713dd6e4caea71", func := "loop.example/g00668/laws.FnPackage", spec := "fnPackage", inPlace := ["internal/abi.NoEscape", "internal/bytealg.MakeNoZero", "internal/reflectlite.ValueOf", "(internal/reflectlite.Value).Type", "(internal/reflectlite.Value).IsNil", "internal/reflectlite.TypeOf", "(internal/reflectlite.Value).Elem", "(internal/reflectlite.Value).Set"], unfollowed := true, recurses := true, named := ["loop.example/g00668/impl.digestStart", "loop.example/g00668/impl.digestSummands", "loop.example/g00668/impl.errSealSize", "loop.example/g00668/impl.errSealShort", "loop.example/g00668/impl.errSealSum", "loop.example/g00668/impl.errStepCount", "loop.example/g00668/impl.errBehind", "loop.example/g00668/impl.errNotValid", "errors.errorType", "loop.example/g00668/impl.errNotAStep"], ifaces := true, apart := false, laid := [("errors.errorType", laid_errors_errorType), ("loop.example/g00668/impl.errSealSize", laid_loop_example_g00668_impl_errSealSize), ("loop.example/g00668/impl.errSealShort", laid_loop_example_g00668_impl_errSealShort), ("loop.example/g00668/impl.errSealSum", laid_loop_example_g00668_impl_errSealSum), ("loop.example/g00668/impl.digestStart", laid_loop_example_g00668_impl_digestStart), ("loop.example/g00668/impl.digestSummands", laid_loop_example_g00668_impl_digestSummands), ("loop.example/g00668/impl.errStepCount", laid_loop_example_g00668_impl_errStepCount), ("loop.example/g00668/impl.errNotAStep", laid_loop_example_g00668_impl_errNotAStep), ("loop.example/g00668/impl.errBehind", laid_loop_example_g00668_impl_errBehind), ("loop.example/g00668/impl.errNotValid", laid_loop_example_g00668_impl_errNotValid)], narrowed := true }
def FnPackageUptoSaid : Prop := fnPackageUptoRow.holds Tryz.pinned (OpenSpec.upto fnPackageSpec)

/-- 'laws.FnLog', WHERE WHAT IT READS IS OF BULK AT MOST 1048576: true; the input reads as it did. -/
def fnLogUptoRow : OpenClaim := { program := "ythkbllkhomjmbaagreatdoor", sum := "1e90a38b75c5632a9480d35f2e78d4482a38bed481134f48a2713dd6e4caea71", func := "loop.example/g00668/laws.FnLog", spec := "fnLog", inPlace := ["internal/reflectlite.TypeOf", "internal/reflectlite.ValueOf", "(internal/reflectlite.Value).Type", "(internal/reflectlite.Value).IsNil", "(internal/reflectlite.Value).Elem", "(internal/reflectlite.Value).Set"], unfollowed := true, recurses := true, named := ["loop.example/g00668/impl.errSealSize", "loop.example/g00668/impl.errSealShort", "loop.example/g00668/impl.errSealSum", "errors.errorType"], ifaces := true, apart := false, laid := [("errors.errorType", laid_errors_errorType), ("loop.example/g00668/impl.errSealSize", laid_loop_example_g00668_impl_errSealSize), ("loop.example/g00668/impl.errSealShort", laid_loop_example_g00668_impl_errSealShort), ("loop.example/g00668/impl.errSealSum", laid_loop_example_g00668_impl_errSealSum)], narrowed := true }
def FnLogUptoSaid : Prop := fnLogUptoRow.holds Tryz.pinned (OpenSpec.upto fnLogSpec)

end Rows
end Go.Proofs.YthkbllkhomjmbaaGreatDoor
