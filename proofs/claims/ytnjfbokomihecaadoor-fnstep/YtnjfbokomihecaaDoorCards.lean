/-
  DERIVED. GIVEN WITH THE SEED: THE CARDS: each row of YtnjfbokomihecaaDoorRows.lean that lists a variable, with what it lists TIED to the program's text (the seventh form; the later family's looks); each row that meets fmt, with fmt's text TOLD by the authors' own Lean function (tested against real Go, not proved from fmt's source: count such statements apart). THE CARD IS WHAT COUNTS. Prove the row's statement (the work); the ties are given (YtnjfbokomihecaaDoorTie.lean); close each card by the builder's one call (the guide's Derived/Test/ToyasCard.lean, 'card_holds'). Laid BY PROGRAM, IN A SANDBOX (cutbox-door.mjs). By AI agents, Wed Nov 11 2026. No macro, syntax, notation, axiom, sorry.
-/
import Derived.Test.YtnjfbokomihecaaDoorRows
import GoSem.ClaimSeven
namespace Go.Proofs.YtnjfbokomihecaaDoor
namespace Rows

/-- THE TIED CARD OF 'laws.FnStep'. -/
def fnStepCard : Claim7 := { stood := { row := fnStepRow, standIns := [], harness := (true, "8376b44f59f0709692040d0da79fbda37eba941b8878b5528b718f4e8404d3f7"), looks := true }, kinds := [], alts := [], laidByText := true, laidKinds := [.handle], laidTests := true, laidLooks := .later }
def FnStepCardSaid : Prop := Claim7.holds Tryd.pinned (.plain (OpenSpec.ofChange fnStepSpec)) fnStepCard

/-- THE TIED CARD OF 'laws.FnExactStepRead'. -/
def fnExactStepReadCard : Claim7 := { stood := { row := fnExactStepReadRow, standIns := [], harness := (true, "8376b44f59f0709692040d0da79fbda37eba941b8878b5528b718f4e8404d3f7"), looks := true }, kinds := [], alts := [], laidByText := true, laidKinds := [.handle], laidTests := true, laidLooks := .later }
def FnExactStepReadCardSaid : Prop := Claim7.holds Tryd.pinned (.plain (OpenSpec.ofChange fnExactStepReadSpec)) fnExactStepReadCard

/-- THE SECOND FORM's CARD OF 'laws.FnStep'. -/
def fnStepUptoCard : Claim7 := { stood := { row := fnStepUptoRow, standIns := [], harness := (true, "8376b44f59f0709692040d0da79fbda37eba941b8878b5528b718f4e8404d3f7"), looks := true }, kinds := [], alts := [], laidByText := true, laidKinds := [.handle], laidTests := true, laidLooks := .later }
def FnStepUptoCardSaid : Prop := Claim7.holds Tryd.pinned (.plain (OpenSpec.upto fnStepSpec)) fnStepUptoCard

/-- THE SECOND FORM's CARD OF 'laws.FnExactStepRead'. -/
def fnExactStepReadUptoCard : Claim7 := { stood := { row := fnExactStepReadUptoRow, standIns := [], harness := (true, "8376b44f59f0709692040d0da79fbda37eba941b8878b5528b718f4e8404d3f7"), looks := true }, kinds := [], alts := [], laidByText := true, laidKinds := [.handle], laidTests := true, laidLooks := .later }
def FnExactStepReadUptoCardSaid : Prop := Claim7.holds Tryd.pinned (.plain (OpenSpec.upto fnExactStepReadSpec)) fnExactStepReadUptoCard
end Rows
end Go.Proofs.YtnjfbokomihecaaDoor
