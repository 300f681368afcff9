/-
  No cell of these rows narrows 'for every input' (looked for: loops, veiled, ifaces, maps, wideKeys, modest, calm, conditions, laid).
  DERIVED. THE GIVEN ROWS OF THIS SEAT. 6 by the template 'for every input the law returns true; each argument reads behind the call as it read before'; 0 by the template 'total and deterministic' (their statements: YtgiiclkjffdjgaaTotals.lean).
  GIVEN WITH THE SEED: the statements are not yours to turn. If you find one false, say at which input.
  Laid BY PROGRAM, IN A SANDBOX (cutbox-rows.mjs): the forced cells as the released guide's own fill.sh prints them over the translation 983c14e45705f8c2… (all of the seat's roots in one cut). By AI agents, Wed Nov 11 2026. No macro, syntax, notation, axiom, sorry.
-/
import Derived.Test.YtgiiclkjffdjgaaChecked
import GoSem.Claim
import GoSem.ClaimJoined
import GoSem.ClaimMapViews
import Derived.JoinedTies
import Derived.KernelRfl
namespace Go.Proofs.Ytgiiclkjffdjgaa
/- THE CELL 'sum', in the pinned program and in every row, IS THE sha256 OF THE DUMP (.gsa) THAT YtgiiclkjffdjgaaProg.lean LOADS. Nothing in Lean hashes anything: it is a label: what it is worth is what the hold of that sum in a sandbox is worth. -/
noncomputable def Try.pinned : Pinned := { name := "ytgiiclkjffdjgaa", sum := "983c14e45705f8c23002e5ff171830a34521433132f496524bac6a662b8d4c66", checked := Try.checked }
namespace Rows
def none {H : Type} : Left H := { results := [], args := [] }

/-- 'laws.FnDiff': WHATEVER THE INPUT: true; the input reads as it did. -/
def fnDiffSpec : ChangeSpec := { name := "fnDiff", fn := fun _ => fun
  | [d] => { results := [.lit (.bool true)], args := [d] }
  | _ => none }
def fnDiffRow : OpenClaim := { program := "ytgiiclkjffdjgaa", sum := "983c14e45705f8c23002e5ff171830a34521433132f496524bac6a662b8d4c66", func := "loop.example/g00668/laws.FnDiff", spec := "fnDiff", unfollowed := true, recurses := true, apart := false }
def FnDiffSaid : Prop := fnDiffRow.holds Try.pinned (OpenSpec.ofChange fnDiffSpec)

/-- ITS FALSE NEIGHBOUR: 'it returns false'. Refute it at one input. -/
def fnDiffWrong : ChangeSpec := { name := "fnDiff", fn := fun _ => fun
  | [d] => { results := [.lit (.bool false)], args := [d] }
  | _ => none }
def FnDiffWrongFalsely : Prop := fnDiffRow.holds Try.pinned (OpenSpec.ofChange fnDiffWrong)

/-- 'laws.FnExactImageRight': WHATEVER THE INPUT: true; the input reads as it did. -/
def fnExactImageRightSpec : ChangeSpec := { name := "fnExactImageRight", fn := fun _ => fun
  | [d] => { results := [.lit (.bool true)], args := [d] }
  | _ => none }
def fnExactImageRightRow : OpenClaim := { program := "ytgiiclkjffdjgaa", sum := "983c14e45705f8c23002e5ff171830a34521433132f496524bac6a662b8d4c66", func := "loop.example/g00668/laws.FnExactImageRight", spec := "fnExactImageRight", unfollowed := true, recurses := true, apart := false }
def FnExactImageRightSaid : Prop := fnExactImageRightRow.holds Try.pinned (OpenSpec.ofChange fnExactImageRightSpec)

/-- ITS FALSE NEIGHBOUR: 'it returns false'. Refute it at one input. -/
def fnExactImageRightWrong : ChangeSpec := { name := "fnExactImageRight", fn := fun _ => fun
  | [d] => { results := [.lit (.bool false)], args := [d] }
  | _ => none }
def FnExactImageRightWrongFalsely : Prop := fnExactImageRightRow.holds Try.pinned (OpenSpec.ofChange fnExactImageRightWrong)

/-- 'laws.FnExactXored': WHATEVER THE INPUT: true; the input reads as it did. -/
def fnExactXoredSpec : ChangeSpec := { name := "fnExactXored", fn := fun _ => fun
  | [d1, d2] => { results := [.lit (.bool true)], args := [d1, d2] }
  | _ => none }
def fnExactXoredRow : OpenClaim := { program := "ytgiiclkjffdjgaa", sum := "983c14e45705f8c23002e5ff171830a34521433132f496524bac6a662b8d4c66", func := "loop.example/g00668/laws.FnExactXored", spec := "fnExactXored", apart := false }
def FnExactXoredSaid : Prop := fnExactXoredRow.holds Try.pinned (OpenSpec.ofChange fnExactXoredSpec)

/-- ITS FALSE NEIGHBOUR: 'it returns false'. Refute it at one input. -/
def fnExactXoredWrong : ChangeSpec := { name := "fnExactXored", fn := fun _ => fun
  | [d1, d2] => { results := [.lit (.bool false)], args := [d1, d2] }
  | _ => none }
def FnExactXoredWrongFalsely : Prop := fnExactXoredRow.holds Try.pinned (OpenSpec.ofChange fnExactXoredWrong)

/-- 'laws.FnExactMadeBy': WHATEVER THE INPUT: true; the input reads as it did. -/
def fnExactMadeBySpec : ChangeSpec := { name := "fnExactMadeBy", fn := fun _ => fun
  | [d1, d2] => { results := [.lit (.bool true)], args := [d1, d2] }
  | _ => none }
def fnExactMadeByRow : OpenClaim := { program := "ytgiiclkjffdjgaa", sum := "983c14e45705f8c23002e5ff171830a34521433132f496524bac6a662b8d4c66", func := "loop.example/g00668/laws.FnExactMadeBy", spec := "fnExactMadeBy", unfollowed := true, recurses := true, apart := false }
def FnExactMadeBySaid : Prop := fnExactMadeByRow.holds Try.pinned (OpenSpec.ofChange fnExactMadeBySpec)

/-- ITS FALSE NEIGHBOUR: 'it returns false'. Refute it at one input. -/
def fnExactMadeByWrong : ChangeSpec := { name := "fnExactMadeBy", fn := fun _ => fun
  | [d1, d2] => { results := [.lit (.bool false)], args := [d1, d2] }
  | _ => none }
def FnExactMadeByWrongFalsely : Prop := fnExactMadeByRow.holds Try.pinned (OpenSpec.ofChange fnExactMadeByWrong)

/-- 'laws.FnExactImageApply': WHATEVER THE INPUT: true; the input reads as it did. -/
def fnExactImageApplySpec : ChangeSpec := { name := "fnExactImageApply", fn := fun _ => fun
  | [d1, d2] => { results := [.lit (.bool true)], args := [d1, d2] }
  | _ => none }
def fnExactImageApplyRow : OpenClaim := { program := "ytgiiclkjffdjgaa", sum := "983c14e45705f8c23002e5ff171830a34521433132f496524bac6a662b8d4c66", func := "loop.example/g00668/laws.FnExactImageApply", spec := "fnExactImageApply", unfollowed := true, recurses := true, apart := false }
def FnExactImageApplySaid : Prop := fnExactImageApplyRow.holds Try.pinned (OpenSpec.ofChange fnExactImageApplySpec)

/-- ITS FALSE NEIGHBOUR: 'it returns false'. Refute it at one input. -/
def fnExactImageApplyWrong : ChangeSpec := { name := "fnExactImageApply", fn := fun _ => fun
  | [d1, d2] => { results := [.lit (.bool false)], args := [d1, d2] }
  | _ => none }
def FnExactImageApplyWrongFalsely : Prop := fnExactImageApplyRow.holds Try.pinned (OpenSpec.ofChange fnExactImageApplyWrong)

/-- 'laws.FnExactStepsFor': WHATEVER THE INPUT: true; the input reads as it did. -/
def fnExactStepsForSpec : ChangeSpec := { name := "fnExactStepsFor", fn := fun _ => fun
  | [d1, d2] => { results := [.lit (.bool true)], args := [d1, d2] }
  | _ => none }
def fnExactStepsForRow : OpenClaim := { program := "ytgiiclkjffdjgaa", sum := "983c14e45705f8c23002e5ff171830a34521433132f496524bac6a662b8d4c66", func := "loop.example/g00668/laws.FnExactStepsFor", spec := "fnExactStepsFor", unfollowed := true, recurses := true, apart := false }
def FnExactStepsForSaid : Prop := fnExactStepsForRow.holds Try.pinned (OpenSpec.ofChange fnExactStepsForSpec)

/-- ITS FALSE NEIGHBOUR: 'it returns false'. Refute it at one input. -/
def fnExactStepsForWrong : ChangeSpec := { name := "fnExactStepsFor", fn := fun _ => fun
  | [d1, d2] => { results := [.lit (.bool false)], args := [d1, d2] }
  | _ => none }
def FnExactStepsForWrongFalsely : Prop := fnExactStepsForRow.holds Try.pinned (OpenSpec.ofChange fnExactStepsForWrong)

/- THE SECOND FORM. 'bulk': how many values and letters a reading holds, each counted each time it is reached (what is shared counts as often as it is met; a slice's spare places count too). A statement '..UptoSaid' is the law's where the arguments, and the package variables that the reading takes, are together of bulk at most 1048576: NARROWER than '..Said'. Prove '..Said' where nothing that the law and all that it calls make is longer than what came in: it says more and counts as full. Else prove '..UptoSaid'. A law counts once. -/
mutual
def uptoBulk {H : Type} : DataW H → Nat
  | .lit (.string bytes) => bytes.length + 1
  | .lit _ => 1
  | .nil => 1
  | .ptr d => uptoBulk d + 1
  | .slice elems spare => uptoBulkAll elems + uptoBulkAll spare + 1
  | .agg parts => uptoBulkAll parts + 1
  | .iface _ d => uptoBulk d + 1
  | .map entries => uptoBulkEntries entries + 1
  | .held _ => 1
def uptoBulkAll {H : Type} : List (DataW H) → Nat
  | [] => 0
  | d :: r => uptoBulk d + uptoBulkAll r
def uptoBulkEntries {H : Type} : List (Lit × DataW H) → Nat
  | [] => 0
  | x :: r => uptoBulkEntry x + uptoBulkEntries r
def uptoBulkEntry {H : Type} : Lit × DataW H → Nat
  | (.string bytes, d) => bytes.length + uptoBulk d + 1
  | (_, d) => uptoBulk d + 1
 end
def uptoSmall : (H : Type) → List (DataW H) → Bool := fun _ ds => decide (uptoBulkAll ds ≤ 1048576)
def OpenSpec.upto (s : _root_.Go.ChangeSpec) : _root_.Go.OpenSpec := { _root_.Go.OpenSpec.ofChange s with cond := some uptoSmall }

/-- 'laws.FnDiff', WHERE WHAT IT READS IS OF BULK AT MOST 1048576: true; the input reads as it did. -/
def fnDiffUptoRow : OpenClaim := { program := "ytgiiclkjffdjgaa", sum := "983c14e45705f8c23002e5ff171830a34521433132f496524bac6a662b8d4c66", func := "loop.example/g00668/laws.FnDiff", spec := "fnDiff", unfollowed := true, recurses := true, apart := false, narrowed := true }
def FnDiffUptoSaid : Prop := fnDiffUptoRow.holds Try.pinned (OpenSpec.upto fnDiffSpec)

/-- 'laws.FnExactImageRight', WHERE WHAT IT READS IS OF BULK AT MOST 1048576: true; the input reads as it did. -/
def fnExactImageRightUptoRow : OpenClaim := { program := "ytgiiclkjffdjgaa", sum := "983c14e45705f8c23002e5ff171830a34521433132f496524bac6a662b8d4c66", func := "loop.example/g00668/laws.FnExactImageRight", spec := "fnExactImageRight", unfollowed := true, recurses := true, apart := false, narrowed := true }
def FnExactImageRightUptoSaid : Prop := fnExactImageRightUptoRow.holds Try.pinned (OpenSpec.upto fnExactImageRightSpec)

/-- 'laws.FnExactXored', WHERE WHAT IT READS IS OF BULK AT MOST 1048576: true; the input reads as it did. -/
def fnExactXoredUptoRow : OpenClaim := { program := "ytgiiclkjffdjgaa", sum := "983c14e45705f8c23002e5ff171830a34521433132f496524bac6a662b8d4c66", func := "loop.example/g00668/laws.FnExactXored", spec := "fnExactXored", apart := false, narrowed := true }
def FnExactXoredUptoSaid : Prop := fnExactXoredUptoRow.holds Try.pinned (OpenSpec.upto fnExactXoredSpec)

/-- 'laws.FnExactMadeBy', WHERE WHAT IT READS IS OF BULK AT MOST 1048576: true; the input reads as it did. -/
def fnExactMadeByUptoRow : OpenClaim := { program := "ytgiiclkjffdjgaa", sum := "983c14e45705f8c23002e5ff171830a34521433132f496524bac6a662b8d4c66", func := "loop.example/g00668/laws.FnExactMadeBy", spec := "fnExactMadeBy", unfollowed := true, recurses := true, apart := false, narrowed := true }
def FnExactMadeByUptoSaid : Prop := fnExactMadeByUptoRow.holds Try.pinned (OpenSpec.upto fnExactMadeBySpec)

/-- 'laws.FnExactImageApply', WHERE WHAT IT READS IS OF BULK AT MOST 1048576: true; the input reads as it did. -/
def fnExactImageApplyUptoRow : OpenClaim := { program := "ytgiiclkjffdjgaa", sum := "983c14e45705f8c23002e5ff171830a34521433132f496524bac6a662b8d4c66", func := "loop.example/g00668/laws.FnExactImageApply", spec := "fnExactImageApply", unfollowed := true, recurses := true, apart := false, narrowed := true }
def FnExactImageApplyUptoSaid : Prop := fnExactImageApplyUptoRow.holds Try.pinned (OpenSpec.upto fnExactImageApplySpec)

/-- 'laws.FnExactStepsFor', WHERE WHAT IT READS IS OF BULK AT MOST 1048576: true; the input reads as it did. -/
def fnExactStepsForUptoRow : OpenClaim := { program := "ytgiiclkjffdjgaa", sum := "983c14e45705f8c23002e5ff171830a34521433132f496524bac6a662b8d4c66", func := "loop.example/g00668/laws.FnExactStepsFor", spec := "fnExactStepsFor", unfollowed := true, recurses := true, apart := false, narrowed := true }
def FnExactStepsForUptoSaid : Prop := fnExactStepsForUptoRow.holds Try.pinned (OpenSpec.upto fnExactStepsForSpec)

end Rows
end Go.Proofs.Ytgiiclkjffdjgaa
