/-
  DERIVED. GIVEN WITH THE SEED: THE CARDS: each row of YtocjjkjjojdpdaaDoorRRRows.lean that lists a variable, with what it lists TIED to the program's text (the seventh form; the later family's looks); each row that meets fmt, with fmt's text TOLD by the authors' own Lean function (tested against real Go, not proved from fmt's source: count such statements apart). THE CARD IS WHAT COUNTS. Prove the row's statement (the work); the ties are given (YtocjjkjjojdpdaaDoorRRTie.lean); close each card by the builder's one call (the guide's Derived/Test/ToyasCard.lean, 'card_holds'). Laid BY PROGRAM, IN A SANDBOX (cutbox-door.mjs). By AI agents, Wed Nov 11 2026. No macro, syntax, notation, axiom, sorry.
-/
import Derived.Test.YtocjjkjjojdpdaaDoorRRRows
import GoSem.ClaimSeven
namespace Go.Proofs.YtocjjkjjojdpdaaDoorRR
namespace Rows

/-- THE TIED CARD OF 'laws.FnExactMetaRead'. -/
def fnExactMetaReadCard : Claim7 := { stood := { row := fnExactMetaReadRow, standIns := [], harness := (true, "de3b393bdfb843f5e72bc15e64eadc646ee62d9c83ac10a000c84f20152b68a1"), looks := true }, kinds := [], alts := [], laidByText := true, laidKinds := [.handle, .sentinel, .sentinel, .sentinel, .sentinel, .sentinel], laidTests := true, laidLooks := .later }
def FnExactMetaReadCardSaid : Prop := Claim7.holds Tryd.pinned (.plain (OpenSpec.ofChange fnExactMetaReadSpec)) fnExactMetaReadCard

/-- THE SECOND FORM's CARD OF 'laws.FnExactMetaRead'. -/
def fnExactMetaReadUptoCard : Claim7 := { stood := { row := fnExactMetaReadUptoRow, standIns := [], harness := (true, "de3b393bdfb843f5e72bc15e64eadc646ee62d9c83ac10a000c84f20152b68a1"), looks := true }, kinds := [], alts := [], laidByText := true, laidKinds := [.handle, .sentinel, .sentinel, .sentinel, .sentinel, .sentinel], laidTests := true, laidLooks := .later }
def FnExactMetaReadUptoCardSaid : Prop := Claim7.holds Tryd.pinned (.plain (OpenSpec.upto fnExactMetaReadSpec)) fnExactMetaReadUptoCard
end Rows
end Go.Proofs.YtocjjkjjojdpdaaDoorRR
