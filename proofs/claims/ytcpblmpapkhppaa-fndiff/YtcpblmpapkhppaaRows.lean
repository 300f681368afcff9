/-
  No cell of these rows narrows 'for every input' (looked for: loops, veiled, ifaces, maps, wideKeys, modest, calm, conditions, laid).
  DERIVED. THE GIVEN ROWS OF THIS SEAT. 8 by the template 'for every input the law returns true; each argument reads behind the call as it read before'; 0 by the template 'total and deterministic' (their statements: YtcpblmpapkhppaaTotals.lean).
  GIVEN WITH THE SEED: the statements are not yours to turn. If you find one false, say at which input.
  Laid BY PROGRAM, IN A SANDBOX (cutbox-rows.mjs): the forced cells as the released guide's own fill.sh prints them over the translation 7cd7a64fe9f8373b… (all of the seat's roots in one cut). By AI agents, Wed Nov 11 2026. No macro, syntax, notation, axiom, sorry.
-/
import Derived.Test.YtcpblmpapkhppaaChecked
import GoSem.Claim
import GoSem.ClaimJoined
import GoSem.ClaimMapViews
import Derived.JoinedTies
import Derived.KernelRfl
namespace Go.Proofs.Ytcpblmpapkhppaa
/- THE CELL 'sum', in the pinned program and in every row, IS THE sha256 OF THE DUMP (.gsa) THAT YtcpblmpapkhppaaProg.lean LOADS. Nothing in Lean hashes anything: it is a label: what it is worth is what the hold of that sum in a sandbox is worth. -/
noncomputable def Try.pinned : Pinned := { name := "ytcpblmpapkhppaa", sum := "7cd7a64fe9f8373b1e5804b2e1dd680c2416d399b6f0da4772e888998e706705", checked := Try.checked }
namespace Rows
def none {H : Type} : Left H := { results := [], args := [] }

/-- 'laws.FnExactPackageRight': WHATEVER THE INPUT: true; the input reads as it did. -/
def fnExactPackageRightSpec : ChangeSpec := { name := "fnExactPackageRight", fn := fun _ => fun
  | [d] => { results := [.lit (.bool true)], args := [d] }
  | _ => none }
def fnExactPackageRightRow : OpenClaim := { program := "ytcpblmpapkhppaa", sum := "7cd7a64fe9f8373b1e5804b2e1dd680c2416d399b6f0da4772e888998e706705", func := "loop.example/g00668/laws.FnExactPackageRight", spec := "fnExactPackageRight", unfollowed := true, recurses := true, apart := false }
def FnExactPackageRightSaid : Prop := fnExactPackageRightRow.holds Try.pinned (OpenSpec.ofChange fnExactPackageRightSpec)

/-- ITS FALSE NEIGHBOUR: 'it returns false'. Refute it at one input. -/
def fnExactPackageRightWrong : ChangeSpec := { name := "fnExactPackageRight", fn := fun _ => fun
  | [d] => { results := [.lit (.bool false)], args := [d] }
  | _ => none }
def FnExactPackageRightWrongFalsely : Prop := fnExactPackageRightRow.holds Try.pinned (OpenSpec.ofChange fnExactPackageRightWrong)

/-- 'laws.FnExactPackageBytes': WHATEVER THE INPUT: true; the input reads as it did. -/
def fnExactPackageBytesSpec : ChangeSpec := { name := "fnExactPackageBytes", fn := fun _ => fun
  | [d] => { results := [.lit (.bool true)], args := [d] }
  | _ => none }
def fnExactPackageBytesRow : OpenClaim := { program := "ytcpblmpapkhppaa", sum := "7cd7a64fe9f8373b1e5804b2e1dd680c2416d399b6f0da4772e888998e706705", func := "loop.example/g00668/laws.FnExactPackageBytes", spec := "fnExactPackageBytes", unfollowed := true, recurses := true, apart := false }
def FnExactPackageBytesSaid : Prop := fnExactPackageBytesRow.holds Try.pinned (OpenSpec.ofChange fnExactPackageBytesSpec)

/-- ITS FALSE NEIGHBOUR: 'it returns false'. Refute it at one input. -/
def fnExactPackageBytesWrong : ChangeSpec := { name := "fnExactPackageBytes", fn := fun _ => fun
  | [d] => { results := [.lit (.bool false)], args := [d] }
  | _ => none }
def FnExactPackageBytesWrongFalsely : Prop := fnExactPackageBytesRow.holds Try.pinned (OpenSpec.ofChange fnExactPackageBytesWrong)

/-- 'laws.FnExactPutText': WHATEVER THE INPUT: true; the input reads as it did. -/
def fnExactPutTextSpec : ChangeSpec := { name := "fnExactPutText", fn := fun _ => fun
  | [d] => { results := [.lit (.bool true)], args := [d] }
  | _ => none }
def fnExactPutTextRow : OpenClaim := { program := "ytcpblmpapkhppaa", sum := "7cd7a64fe9f8373b1e5804b2e1dd680c2416d399b6f0da4772e888998e706705", func := "loop.example/g00668/laws.FnExactPutText", spec := "fnExactPutText", apart := false }
def FnExactPutTextSaid : Prop := fnExactPutTextRow.holds Try.pinned (OpenSpec.ofChange fnExactPutTextSpec)

/-- ITS FALSE NEIGHBOUR: 'it returns false'. Refute it at one input. -/
def fnExactPutTextWrong : ChangeSpec := { name := "fnExactPutText", fn := fun _ => fun
  | [d] => { results := [.lit (.bool false)], args := [d] }
  | _ => none }
def FnExactPutTextWrongFalsely : Prop := fnExactPutTextRow.holds Try.pinned (OpenSpec.ofChange fnExactPutTextWrong)

/-- 'laws.FnExactSeal': WHATEVER THE INPUT: true; the input reads as it did. -/
def fnExactSealSpec : ChangeSpec := { name := "fnExactSeal", fn := fun _ => fun
  | [d] => { results := [.lit (.bool true)], args := [d] }
  | _ => none }
def fnExactSealRow : OpenClaim := { program := "ytcpblmpapkhppaa", sum := "7cd7a64fe9f8373b1e5804b2e1dd680c2416d399b6f0da4772e888998e706705", func := "loop.example/g00668/laws.FnExactSeal", spec := "fnExactSeal", apart := false }
def FnExactSealSaid : Prop := fnExactSealRow.holds Try.pinned (OpenSpec.ofChange fnExactSealSpec)

/-- ITS FALSE NEIGHBOUR: 'it returns false'. Refute it at one input. -/
def fnExactSealWrong : ChangeSpec := { name := "fnExactSeal", fn := fun _ => fun
  | [d] => { results := [.lit (.bool false)], args := [d] }
  | _ => none }
def FnExactSealWrongFalsely : Prop := fnExactSealRow.holds Try.pinned (OpenSpec.ofChange fnExactSealWrong)

/-- 'laws.FnExactStepBytes': WHATEVER THE INPUT: true; the input reads as it did. -/
def fnExactStepBytesSpec : ChangeSpec := { name := "fnExactStepBytes", fn := fun _ => fun
  | [d] => { results := [.lit (.bool true)], args := [d] }
  | _ => none }
def fnExactStepBytesRow : OpenClaim := { program := "ytcpblmpapkhppaa", sum := "7cd7a64fe9f8373b1e5804b2e1dd680c2416d399b6f0da4772e888998e706705", func := "loop.example/g00668/laws.FnExactStepBytes", spec := "fnExactStepBytes", unfollowed := true, recurses := true, apart := false }
def FnExactStepBytesSaid : Prop := fnExactStepBytesRow.holds Try.pinned (OpenSpec.ofChange fnExactStepBytesSpec)

/-- ITS FALSE NEIGHBOUR: 'it returns false'. Refute it at one input. -/
def fnExactStepBytesWrong : ChangeSpec := { name := "fnExactStepBytes", fn := fun _ => fun
  | [d] => { results := [.lit (.bool false)], args := [d] }
  | _ => none }
def FnExactStepBytesWrongFalsely : Prop := fnExactStepBytesRow.holds Try.pinned (OpenSpec.ofChange fnExactStepBytesWrong)

/-- 'laws.FnExactStepsFor': WHATEVER THE INPUT: true; the input reads as it did. -/
def fnExactStepsForSpec : ChangeSpec := { name := "fnExactStepsFor", fn := fun _ => fun
  | [d1, d2] => { results := [.lit (.bool true)], args := [d1, d2] }
  | _ => none }
def fnExactStepsForRow : OpenClaim := { program := "ytcpblmpapkhppaa", sum := "7cd7a64fe9f8373b1e5804b2e1dd680c2416d399b6f0da4772e888998e706705", func := "loop.example/g00668/laws.FnExactStepsFor", spec := "fnExactStepsFor", unfollowed := true, recurses := true, apart := false }
def FnExactStepsForSaid : Prop := fnExactStepsForRow.holds Try.pinned (OpenSpec.ofChange fnExactStepsForSpec)

/-- ITS FALSE NEIGHBOUR: 'it returns false'. Refute it at one input. -/
def fnExactStepsForWrong : ChangeSpec := { name := "fnExactStepsFor", fn := fun _ => fun
  | [d1, d2] => { results := [.lit (.bool false)], args := [d1, d2] }
  | _ => none }
def FnExactStepsForWrongFalsely : Prop := fnExactStepsForRow.holds Try.pinned (OpenSpec.ofChange fnExactStepsForWrong)

/-- 'laws.FnDiff': WHATEVER THE INPUT: true; the input reads as it did. -/
def fnDiffSpec : ChangeSpec := { name := "fnDiff", fn := fun _ => fun
  | [d] => { results := [.lit (.bool true)], args := [d] }
  | _ => none }
def fnDiffRow : OpenClaim := { program := "ytcpblmpapkhppaa", sum := "7cd7a64fe9f8373b1e5804b2e1dd680c2416d399b6f0da4772e888998e706705", func := "loop.example/g00668/laws.FnDiff", spec := "fnDiff", unfollowed := true, recurses := true, apart := false }
def FnDiffSaid : Prop := fnDiffRow.holds Try.pinned (OpenSpec.ofChange fnDiffSpec)

/-- ITS FALSE NEIGHBOUR: 'it returns false'. Refute it at one input. -/
def fnDiffWrong : ChangeSpec := { name := "fnDiff", fn := fun _ => fun
  | [d] => { results := [.lit (.bool false)], args := [d] }
  | _ => none }
def FnDiffWrongFalsely : Prop := fnDiffRow.holds Try.pinned (OpenSpec.ofChange fnDiffWrong)

/-- 'laws.FnExactMetaBytes': WHATEVER THE INPUT: true; the input reads as it did. -/
def fnExactMetaBytesSpec : ChangeSpec := { name := "fnExactMetaBytes", fn := fun _ => fun
  | [d1, d2] => { results := [.lit (.bool true)], args := [d1, d2] }
  | _ => none }
def fnExactMetaBytesRow : OpenClaim := { program := "ytcpblmpapkhppaa", sum := "7cd7a64fe9f8373b1e5804b2e1dd680c2416d399b6f0da4772e888998e706705", func := "loop.example/g00668/laws.FnExactMetaBytes", spec := "fnExactMetaBytes", apart := false }
def FnExactMetaBytesSaid : Prop := fnExactMetaBytesRow.holds Try.pinned (OpenSpec.ofChange fnExactMetaBytesSpec)

/-- ITS FALSE NEIGHBOUR: 'it returns false'. Refute it at one input. -/
def fnExactMetaBytesWrong : ChangeSpec := { name := "fnExactMetaBytes", fn := fun _ => fun
  | [d1, d2] => { results := [.lit (.bool false)], args := [d1, d2] }
  | _ => none }
def FnExactMetaBytesWrongFalsely : Prop := fnExactMetaBytesRow.holds Try.pinned (OpenSpec.ofChange fnExactMetaBytesWrong)

/- THE SECOND FORM. 'bulk': how many values and letters a reading holds, each counted each time it is reached (what is shared counts as often as it is met; a slice's spare places count too). A statement '..UptoSaid' is the law's where the arguments, and the package variables that the reading takes, are together of bulk at most 1048576: NARROWER than '..Said'. Prove '..Said' where nothing that the law and all that it calls make is longer than what came in: it says more and counts as full. Else prove '..UptoSaid'. A law counts once. -/
mutual
def uptoBulk {H : Type} : DataW H → Nat
  | .lit (.string bytes) => bytes.length + 1
  | .lit _ => 1
  | .nil => 1
  | .ptr d => uptoBulk d + 1
  | .slice elems spare => uptoBulkAll elems + uptoBulkAll spare + 1
  | .agg parts => uptoBulkAll parts + 1
  | .iface _ d => uptoBulk d + 1
  | .map entries => uptoBulkEntries entries + 1
  | .held _ => 1
def uptoBulkAll {H : Type} : List (DataW H) → Nat
  | [] => 0
  | d :: r => uptoBulk d + uptoBulkAll r
def uptoBulkEntries {H : Type} : List (Lit × DataW H) → Nat
  | [] => 0
  | x :: r => uptoBulkEntry x + uptoBulkEntries r
def uptoBulkEntry {H : Type} : Lit × DataW H → Nat
  | (.string bytes, d) => bytes.length + uptoBulk d + 1
  | (_, d) => uptoBulk d + 1
 end
def uptoSmall : (H : Type) → List (DataW H) → Bool := fun _ ds => decide (uptoBulkAll ds ≤ 1048576)
def OpenSpec.upto (s : _root_.Go.ChangeSpec) : _root_.Go.OpenSpec := { _root_.Go.OpenSpec.ofChange s with cond := some uptoSmall }

/-- 'laws.FnExactPackageRight', WHERE WHAT IT READS IS OF BULK AT MOST 1048576: true; the input reads as it did. -/
def fnExactPackageRightUptoRow : OpenClaim := { program := "ytcpblmpapkhppaa", sum := "7cd7a64fe9f8373b1e5804b2e1dd680c2416d399b6f0da4772e888998e706705", func := "loop.example/g00668/laws.FnExactPackageRight", spec := "fnExactPackageRight", unfollowed := true, recurses := true, apart := false, narrowed := true }
def FnExactPackageRightUptoSaid : Prop := fnExactPackageRightUptoRow.holds Try.pinned (OpenSpec.upto fnExactPackageRightSpec)

/-- 'laws.FnExactPackageBytes', WHERE WHAT IT READS IS OF BULK AT MOST 1048576: true; the input reads as it did. -/
def fnExactPackageBytesUptoRow : OpenClaim := { program := "ytcpblmpapkhppaa", sum := "7cd7a64fe9f8373b1e5804b2e1dd680c2416d399b6f0da4772e888998e706705", func := "loop.example/g00668/laws.FnExactPackageBytes", spec := "fnExactPackageBytes", unfollowed := true, recurses := true, apart := false, narrowed := true }
def FnExactPackageBytesUptoSaid : Prop := fnExactPackageBytesUptoRow.holds Try.pinned (OpenSpec.upto fnExactPackageBytesSpec)

/-- 'laws.FnExactPutText', WHERE WHAT IT READS IS OF BULK AT MOST 1048576: true; the input reads as it did. -/
def fnExactPutTextUptoRow : OpenClaim := { program := "ytcpblmpapkhppaa", sum := "7cd7a64fe9f8373b1e5804b2e1dd680c2416d399b6f0da4772e888998e706705", func := "loop.example/g00668/laws.FnExactPutText", spec := "fnExactPutText", apart := false, narrowed := true }
def FnExactPutTextUptoSaid : Prop := fnExactPutTextUptoRow.holds Try.pinned (OpenSpec.upto fnExactPutTextSpec)

/-- 'laws.FnExactSeal', WHERE WHAT IT READS IS OF BULK AT MOST 1048576: true; the input reads as it did. -/
def fnExactSealUptoRow : OpenClaim := { program := "ytcpblmpapkhppaa", sum := "7cd7a64fe9f8373b1e5804b2e1dd680c2416d399b6f0da4772e888998e706705", func := "loop.example/g00668/laws.FnExactSeal", spec := "fnExactSeal", apart := false, narrowed := true }
def FnExactSealUptoSaid : Prop := fnExactSealUptoRow.holds Try.pinned (OpenSpec.upto fnExactSealSpec)

/-- 'laws.FnExactStepBytes', WHERE WHAT IT READS IS OF BULK AT MOST 1048576: true; the input reads as it did. -/
def fnExactStepBytesUptoRow : OpenClaim := { program := "ytcpblmpapkhppaa", sum := "7cd7a64fe9f8373b1e5804b2e1dd680c2416d399b6f0da4772e888998e706705", func := "loop.example/g00668/laws.FnExactStepBytes", spec := "fnExactStepBytes", unfollowed := true, recurses := true, apart := false, narrowed := true }
def FnExactStepBytesUptoSaid : Prop := fnExactStepBytesUptoRow.holds Try.pinned (OpenSpec.upto fnExactStepBytesSpec)

/-- 'laws.FnExactStepsFor', WHERE WHAT IT READS IS OF BULK AT MOST 1048576: true; the input reads as it did. -/
def fnExactStepsForUptoRow : OpenClaim := { program := "ytcpblmpapkhppaa", sum := "7cd7a64fe9f8373b1e5804b2e1dd680c2416d399b6f0da4772e888998e706705", func := "loop.example/g00668/laws.FnExactStepsFor", spec := "fnExactStepsFor", unfollowed := true, recurses := true, apart := false, narrowed := true }
def FnExactStepsForUptoSaid : Prop := fnExactStepsForUptoRow.holds Try.pinned (OpenSpec.upto fnExactStepsForSpec)

/-- 'laws.FnDiff', WHERE WHAT IT READS IS OF BULK AT MOST 1048576: true; the input reads as it did. -/
def fnDiffUptoRow : OpenClaim := { program := "ytcpblmpapkhppaa", sum := "7cd7a64fe9f8373b1e5804b2e1dd680c2416d399b6f0da4772e888998e706705", func := "loop.example/g00668/laws.FnDiff", spec := "fnDiff", unfollowed := true, recurses := true, apart := false, narrowed := true }
def FnDiffUptoSaid : Prop := fnDiffUptoRow.holds Try.pinned (OpenSpec.upto fnDiffSpec)

/-- 'laws.FnExactMetaBytes', WHERE WHAT IT READS IS OF BULK AT MOST 1048576: true; the input reads as it did. -/
def fnExactMetaBytesUptoRow : OpenClaim := { program := "ytcpblmpapkhppaa", sum := "7cd7a64fe9f8373b1e5804b2e1dd680c2416d399b6f0da4772e888998e706705", func := "loop.example/g00668/laws.FnExactMetaBytes", spec := "fnExactMetaBytes", apart := false, narrowed := true }
def FnExactMetaBytesUptoSaid : Prop := fnExactMetaBytesUptoRow.holds Try.pinned (OpenSpec.upto fnExactMetaBytesSpec)

end Rows
end Go.Proofs.Ytcpblmpapkhppaa
