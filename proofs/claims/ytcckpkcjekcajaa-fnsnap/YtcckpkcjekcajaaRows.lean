/-
  No cell of these rows narrows 'for every input' (looked for: loops, veiled, ifaces, maps, wideKeys, modest, calm, conditions, laid).
  DERIVED. THE GIVEN ROWS OF THIS SEAT. 6 by the template 'for every input the law returns true; each argument reads behind the call as it read before'; 0 by the template 'total and deterministic' (their statements: YtcckpkcjekcajaaTotals.lean).
  GIVEN WITH THE SEED: the statements are not yours to turn. If you find one false, say at which input.
  Laid BY PROGRAM, IN A SANDBOX (cutbox-rows.mjs): the forced cells as the released guide's own fill.sh prints them over the translation 5151b7cbba403361… (all of the seat's roots in one cut). By AI agents, Wed Nov 11 2026. No macro, syntax, notation, axiom, sorry.
-/
import Derived.Test.YtcckpkcjekcajaaChecked
import GoSem.Claim
import GoSem.ClaimJoined
import GoSem.ClaimMapViews
import Derived.JoinedTies
import Derived.KernelRfl
namespace Go.Proofs.Ytcckpkcjekcajaa
/- THE CELL 'sum', in the pinned program and in every row, IS THE sha256 OF THE DUMP (.gsa) THAT YtcckpkcjekcajaaProg.lean LOADS. Nothing in Lean hashes anything: it is a label: what it is worth is what the hold of that sum in a sandbox is worth. -/
noncomputable def Try.pinned : Pinned := { name := "ytcckpkcjekcajaa", sum := "5151b7cbba403361f57a0fbe383f97a12cbbd3c8e1672abb688f6e58657fd12f", checked := Try.checked }
namespace Rows
def none {H : Type} : Left H := { results := [], args := [] }

/-- 'laws.FnExactSnapRead': WHATEVER THE INPUT: true; the input reads as it did. -/
def fnExactSnapReadSpec : ChangeSpec := { name := "fnExactSnapRead", fn := fun _ => fun
  | [d1, d2, d3] => { results := [.lit (.bool true)], args := [d1, d2, d3] }
  | _ => none }
def fnExactSnapReadRow : OpenClaim := { program := "ytcckpkcjekcajaa", sum := "5151b7cbba403361f57a0fbe383f97a12cbbd3c8e1672abb688f6e58657fd12f", func := "loop.example/g00668/laws.FnExactSnapRead", spec := "fnExactSnapRead", unfollowed := true, recurses := true, apart := false }
def FnExactSnapReadSaid : Prop := fnExactSnapReadRow.holds Try.pinned (OpenSpec.ofChange fnExactSnapReadSpec)

/-- ITS FALSE NEIGHBOUR: 'it returns false'. Refute it at one input. -/
def fnExactSnapReadWrong : ChangeSpec := { name := "fnExactSnapRead", fn := fun _ => fun
  | [d1, d2, d3] => { results := [.lit (.bool false)], args := [d1, d2, d3] }
  | _ => none }
def FnExactSnapReadWrongFalsely : Prop := fnExactSnapReadRow.holds Try.pinned (OpenSpec.ofChange fnExactSnapReadWrong)

/-- 'laws.FnExactSnapAll': WHATEVER THE INPUT: true; the input reads as it did. -/
def fnExactSnapAllSpec : ChangeSpec := { name := "fnExactSnapAll", fn := fun _ => fun
  | [d1, d2] => { results := [.lit (.bool true)], args := [d1, d2] }
  | _ => none }
def fnExactSnapAllRow : OpenClaim := { program := "ytcckpkcjekcajaa", sum := "5151b7cbba403361f57a0fbe383f97a12cbbd3c8e1672abb688f6e58657fd12f", func := "loop.example/g00668/laws.FnExactSnapAll", spec := "fnExactSnapAll", unfollowed := true, recurses := true, apart := false }
def FnExactSnapAllSaid : Prop := fnExactSnapAllRow.holds Try.pinned (OpenSpec.ofChange fnExactSnapAllSpec)

/-- ITS FALSE NEIGHBOUR: 'it returns false'. Refute it at one input. -/
def fnExactSnapAllWrong : ChangeSpec := { name := "fnExactSnapAll", fn := fun _ => fun
  | [d1, d2] => { results := [.lit (.bool false)], args := [d1, d2] }
  | _ => none }
def FnExactSnapAllWrongFalsely : Prop := fnExactSnapAllRow.holds Try.pinned (OpenSpec.ofChange fnExactSnapAllWrong)

/-- 'laws.FnExactTouches': WHATEVER THE INPUT: true; the input reads as it did. -/
def fnExactTouchesSpec : ChangeSpec := { name := "fnExactTouches", fn := fun _ => fun
  | [d1, d2] => { results := [.lit (.bool true)], args := [d1, d2] }
  | _ => none }
def fnExactTouchesRow : OpenClaim := { program := "ytcckpkcjekcajaa", sum := "5151b7cbba403361f57a0fbe383f97a12cbbd3c8e1672abb688f6e58657fd12f", func := "loop.example/g00668/laws.FnExactTouches", spec := "fnExactTouches", apart := false }
def FnExactTouchesSaid : Prop := fnExactTouchesRow.holds Try.pinned (OpenSpec.ofChange fnExactTouchesSpec)

/-- ITS FALSE NEIGHBOUR: 'it returns false'. Refute it at one input. -/
def fnExactTouchesWrong : ChangeSpec := { name := "fnExactTouches", fn := fun _ => fun
  | [d1, d2] => { results := [.lit (.bool false)], args := [d1, d2] }
  | _ => none }
def FnExactTouchesWrongFalsely : Prop := fnExactTouchesRow.holds Try.pinned (OpenSpec.ofChange fnExactTouchesWrong)

/-- 'laws.FnSnap': WHATEVER THE INPUT: true; the input reads as it did. -/
def fnSnapSpec : ChangeSpec := { name := "fnSnap", fn := fun _ => fun
  | [d1, d2] => { results := [.lit (.bool true)], args := [d1, d2] }
  | _ => none }
def fnSnapRow : OpenClaim := { program := "ytcckpkcjekcajaa", sum := "5151b7cbba403361f57a0fbe383f97a12cbbd3c8e1672abb688f6e58657fd12f", func := "loop.example/g00668/laws.FnSnap", spec := "fnSnap", unfollowed := true, recurses := true, apart := false }
def FnSnapSaid : Prop := fnSnapRow.holds Try.pinned (OpenSpec.ofChange fnSnapSpec)

/-- ITS FALSE NEIGHBOUR: 'it returns false'. Refute it at one input. -/
def fnSnapWrong : ChangeSpec := { name := "fnSnap", fn := fun _ => fun
  | [d1, d2] => { results := [.lit (.bool false)], args := [d1, d2] }
  | _ => none }
def FnSnapWrongFalsely : Prop := fnSnapRow.holds Try.pinned (OpenSpec.ofChange fnSnapWrong)

/-- 'laws.FnExactImageApply': WHATEVER THE INPUT: true; the input reads as it did. -/
def fnExactImageApplySpec : ChangeSpec := { name := "fnExactImageApply", fn := fun _ => fun
  | [d1, d2] => { results := [.lit (.bool true)], args := [d1, d2] }
  | _ => none }
def fnExactImageApplyRow : OpenClaim := { program := "ytcckpkcjekcajaa", sum := "5151b7cbba403361f57a0fbe383f97a12cbbd3c8e1672abb688f6e58657fd12f", func := "loop.example/g00668/laws.FnExactImageApply", spec := "fnExactImageApply", unfollowed := true, recurses := true, apart := false }
def FnExactImageApplySaid : Prop := fnExactImageApplyRow.holds Try.pinned (OpenSpec.ofChange fnExactImageApplySpec)

/-- ITS FALSE NEIGHBOUR: 'it returns false'. Refute it at one input. -/
def fnExactImageApplyWrong : ChangeSpec := { name := "fnExactImageApply", fn := fun _ => fun
  | [d1, d2] => { results := [.lit (.bool false)], args := [d1, d2] }
  | _ => none }
def FnExactImageApplyWrongFalsely : Prop := fnExactImageApplyRow.holds Try.pinned (OpenSpec.ofChange fnExactImageApplyWrong)

/-- 'laws.FnDiff': WHATEVER THE INPUT: true; the input reads as it did. -/
def fnDiffSpec : ChangeSpec := { name := "fnDiff", fn := fun _ => fun
  | [d] => { results := [.lit (.bool true)], args := [d] }
  | _ => none }
def fnDiffRow : OpenClaim := { program := "ytcckpkcjekcajaa", sum := "5151b7cbba403361f57a0fbe383f97a12cbbd3c8e1672abb688f6e58657fd12f", func := "loop.example/g00668/laws.FnDiff", spec := "fnDiff", unfollowed := true, recurses := true, apart := false }
def FnDiffSaid : Prop := fnDiffRow.holds Try.pinned (OpenSpec.ofChange fnDiffSpec)

/-- ITS FALSE NEIGHBOUR: 'it returns false'. Refute it at one input. -/
def fnDiffWrong : ChangeSpec := { name := "fnDiff", fn := fun _ => fun
  | [d] => { results := [.lit (.bool false)], args := [d] }
  | _ => none }
def FnDiffWrongFalsely : Prop := fnDiffRow.holds Try.pinned (OpenSpec.ofChange fnDiffWrong)

/- THE SECOND FORM. 'bulk': how many values and letters a reading holds, each counted each time it is reached (what is shared counts as often as it is met; a slice's spare places count too). A statement '..UptoSaid' is the law's where the arguments, and the package variables that the reading takes, are together of bulk at most 1048576: NARROWER than '..Said'. Prove '..Said' where nothing that the law and all that it calls make is longer than what came in: it says more and counts as full. Else prove '..UptoSaid'. A law counts once. -/
mutual
def uptoBulk {H : Type} : DataW H → Nat
  | .lit (.string bytes) => bytes.length + 1
  | .lit _ => 1
  | .nil => 1
  | .ptr d => uptoBulk d + 1
  | .slice elems spare => uptoBulkAll elems + uptoBulkAll spare + 1
  | .agg parts => uptoBulkAll parts + 1
  | .iface _ d => uptoBulk d + 1
  | .map entries => uptoBulkEntries entries + 1
  | .held _ => 1
def uptoBulkAll {H : Type} : List (DataW H) → Nat
  | [] => 0
  | d :: r => uptoBulk d + uptoBulkAll r
def uptoBulkEntries {H : Type} : List (Lit × DataW H) → Nat
  | [] => 0
  | x :: r => uptoBulkEntry x + uptoBulkEntries r
def uptoBulkEntry {H : Type} : Lit × DataW H → Nat
  | (.string bytes, d) => bytes.length + uptoBulk d + 1
  | (_, d) => uptoBulk d + 1
 end
def uptoSmall : (H : Type) → List (DataW H) → Bool := fun _ ds => decide (uptoBulkAll ds ≤ 1048576)
def OpenSpec.upto (s : _root_.Go.ChangeSpec) : _root_.Go.OpenSpec := { _root_.Go.OpenSpec.ofChange s with cond := some uptoSmall }

/-- 'laws.FnExactSnapRead', WHERE WHAT IT READS IS OF BULK AT MOST 1048576: true; the input reads as it did. -/
def fnExactSnapReadUptoRow : OpenClaim := { program := "ytcckpkcjekcajaa", sum := "5151b7cbba403361f57a0fbe383f97a12cbbd3c8e1672abb688f6e58657fd12f", func := "loop.example/g00668/laws.FnExactSnapRead", spec := "fnExactSnapRead", unfollowed := true, recurses := true, apart := false, narrowed := true }
def FnExactSnapReadUptoSaid : Prop := fnExactSnapReadUptoRow.holds Try.pinned (OpenSpec.upto fnExactSnapReadSpec)

/-- 'laws.FnExactSnapAll', WHERE WHAT IT READS IS OF BULK AT MOST 1048576: true; the input reads as it did. -/
def fnExactSnapAllUptoRow : OpenClaim := { program := "ytcckpkcjekcajaa", sum := "5151b7cbba403361f57a0fbe383f97a12cbbd3c8e1672abb688f6e58657fd12f", func := "loop.example/g00668/laws.FnExactSnapAll", spec := "fnExactSnapAll", unfollowed := true, recurses := true, apart := false, narrowed := true }
def FnExactSnapAllUptoSaid : Prop := fnExactSnapAllUptoRow.holds Try.pinned (OpenSpec.upto fnExactSnapAllSpec)

/-- 'laws.FnExactTouches', WHERE WHAT IT READS IS OF BULK AT MOST 1048576: true; the input reads as it did. -/
def fnExactTouchesUptoRow : OpenClaim := { program := "ytcckpkcjekcajaa", sum := "5151b7cbba403361f57a0fbe383f97a12cbbd3c8e1672abb688f6e58657fd12f", func := "loop.example/g00668/laws.FnExactTouches", spec := "fnExactTouches", apart := false, narrowed := true }
def FnExactTouchesUptoSaid : Prop := fnExactTouchesUptoRow.holds Try.pinned (OpenSpec.upto fnExactTouchesSpec)

/-- 'laws.FnSnap', WHERE WHAT IT READS IS OF BULK AT MOST 1048576: true; the input reads as it did. -/
def fnSnapUptoRow : OpenClaim := { program := "ytcckpkcjekcajaa", sum := "5151b7cbba403361f57a0fbe383f97a12cbbd3c8e1672abb688f6e58657fd12f", func := "loop.example/g00668/laws.FnSnap", spec := "fnSnap", unfollowed := true, recurses := true, apart := false, narrowed := true }
def FnSnapUptoSaid : Prop := fnSnapUptoRow.holds Try.pinned (OpenSpec.upto fnSnapSpec)

/-- 'laws.FnExactImageApply', WHERE WHAT IT READS IS OF BULK AT MOST 1048576: true; the input reads as it did. -/
def fnExactImageApplyUptoRow : OpenClaim := { program := "ytcckpkcjekcajaa", sum := "5151b7cbba403361f57a0fbe383f97a12cbbd3c8e1672abb688f6e58657fd12f", func := "loop.example/g00668/laws.FnExactImageApply", spec := "fnExactImageApply", unfollowed := true, recurses := true, apart := false, narrowed := true }
def FnExactImageApplyUptoSaid : Prop := fnExactImageApplyUptoRow.holds Try.pinned (OpenSpec.upto fnExactImageApplySpec)

/-- 'laws.FnDiff', WHERE WHAT IT READS IS OF BULK AT MOST 1048576: true; the input reads as it did. -/
def fnDiffUptoRow : OpenClaim := { program := "ytcckpkcjekcajaa", sum := "5151b7cbba403361f57a0fbe383f97a12cbbd3c8e1672abb688f6e58657fd12f", func := "loop.example/g00668/laws.FnDiff", spec := "fnDiff", unfollowed := true, recurses := true, apart := false, narrowed := true }
def FnDiffUptoSaid : Prop := fnDiffUptoRow.holds Try.pinned (OpenSpec.upto fnDiffSpec)

end Rows
end Go.Proofs.Ytcckpkcjekcajaa
