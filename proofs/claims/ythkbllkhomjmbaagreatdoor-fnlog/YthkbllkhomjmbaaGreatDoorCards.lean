/-
  DERIVED. GIVEN WITH THE SEED: THE CARDS: each row of YthkbllkhomjmbaaGreatDoorRows.lean that lists a variable, with what it lists TIED to the program's text (the seventh form; the later family's looks); each row that meets fmt, with fmt's text TOLD by the authors' own Lean function (tested against real Go, not proved from fmt's source: count such statements apart). THE CARD IS WHAT COUNTS. Prove the row's statement (the work); the ties are given (YthkbllkhomjmbaaGreatDoorTie.lean); close each card by the builder's one call (the guide's Derived/Test/ToyasCard.lean, 'card_holds'). Laid BY PROGRAM, IN A SANDBOX (cutbox-door.mjs). By AI agents, Wed Nov 11 2026. No macro, syntax, notation, axiom, sorry.
-/
import Derived.Test.YthkbllkhomjmbaaGreatDoorRows
import GoSem.ClaimSeven
namespace Go.Proofs.YthkbllkhomjmbaaGreatDoor
namespace Rows

/-- THE TIED CARD OF 'laws.FnPackage'. -/
def fnPackageCard : Claim7 := { stood := { row := fnPackageRow, standIns := [], harness := (true, "795f7fe87388bd541017d362818365748b654a187b7ef53716a3712542b86e59"), looks := true }, kinds := [], alts := [], laidByText := true, laidKinds := [.handle, .sentinel, .sentinel, .sentinel, .data, .data, .sentinel, .sentinel, .sentinel, .sentinel], laidTests := true, laidLooks := .later }
def FnPackageCardSaid : Prop := Claim7.holds Tryz.pinned (.plain (OpenSpec.ofChange fnPackageSpec)) fnPackageCard

/-- THE TIED CARD OF 'laws.FnLog'. -/
def fnLogCard : Claim7 := { stood := { row := fnLogRow, standIns := [], harness := (true, "795f7fe87388bd541017d362818365748b654a187b7ef53716a3712542b86e59"), looks := true }, kinds := [], alts := [], laidByText := true, laidKinds := [.handle, .sentinel, .sentinel, .sentinel], laidTests := true, laidLooks := .later }
def FnLogCardSaid : Prop := Claim7.holds Tryz.pinned (.plain (OpenSpec.ofChange fnLogSpec)) fnLogCard

/-- THE SECOND FORM's CARD OF 'laws.FnPackage'. -/
def fnPackageUptoCard : Claim7 := { stood := { row := fnPackageUptoRow, standIns := [], harness := (true, "795f7fe87388bd541017d362818365748b654a187b7ef53716a3712542b86e59"), looks := true }, kinds := [], alts := [], laidByText := true, laidKinds := [.handle, .sentinel, .sentinel, .sentinel, .data, .data, .sentinel, .sentinel, .sentinel, .sentinel], laidTests := true, laidLooks := .later }
def FnPackageUptoCardSaid : Prop := Claim7.holds Tryz.pinned (.plain (OpenSpec.upto fnPackageSpec)) fnPackageUptoCard

/-- THE SECOND FORM's CARD OF 'laws.FnLog'. -/
def fnLogUptoCard : Claim7 := { stood := { row := fnLogUptoRow, standIns := [], harness := (true, "795f7fe87388bd541017d362818365748b654a187b7ef53716a3712542b86e59"), looks := true }, kinds := [], alts := [], laidByText := true, laidKinds := [.handle, .sentinel, .sentinel, .sentinel], laidTests := true, laidLooks := .later }
def FnLogUptoCardSaid : Prop := Claim7.holds Tryz.pinned (.plain (OpenSpec.upto fnLogSpec)) fnLogUptoCard
end Rows
end Go.Proofs.YthkbllkhomjmbaaGreatDoor
