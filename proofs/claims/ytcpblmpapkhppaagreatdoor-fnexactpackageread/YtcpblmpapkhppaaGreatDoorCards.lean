/-
  DERIVED. GIVEN WITH THE SEED: THE CARDS: each row of YtcpblmpapkhppaaGreatDoorRows.lean that lists a variable, with what it lists TIED to the program's text (the seventh form; the later family's looks); each row that meets fmt, with fmt's text TOLD by the authors' own Lean function (tested against real Go, not proved from fmt's source: count such statements apart). THE CARD IS WHAT COUNTS. Prove the row's statement (the work); the ties are given (YtcpblmpapkhppaaGreatDoorTie.lean); close each card by the builder's one call (the guide's Derived/Test/ToyasCard.lean, 'card_holds'). Laid BY PROGRAM, IN A SANDBOX (cutbox-door.mjs). By AI agents, Wed Nov 11 2026. No macro, syntax, notation, axiom, sorry.
-/
import Derived.Test.YtcpblmpapkhppaaGreatDoorRows
import GoSem.ClaimSeven
namespace Go.Proofs.YtcpblmpapkhppaaGreatDoor
namespace Rows

/-- THE TIED CARD OF 'laws.FnExactPackageRead'. -/
def fnExactPackageReadCard : Claim7 := { stood := { row := fnExactPackageReadRow, standIns := [], harness := (true, "61d4ba101d69c678fe57ea955514bfe9ec0ca10778de82d82e1fe292291fdd74"), looks := true }, kinds := [], alts := [], laidByText := true, laidKinds := [.handle, .sentinel, .sentinel, .sentinel, .sentinel, .sentinel, .sentinel, .sentinel], laidTests := true, laidLooks := .later }
def FnExactPackageReadCardSaid : Prop := Claim7.holds Tryz.pinned (.plain (OpenSpec.ofChange fnExactPackageReadSpec)) fnExactPackageReadCard

/-- THE TIED CARD OF 'laws.FnPackage'. -/
def fnPackageCard : Claim7 := { stood := { row := fnPackageRow, standIns := [], harness := (true, "61d4ba101d69c678fe57ea955514bfe9ec0ca10778de82d82e1fe292291fdd74"), looks := true }, kinds := [], alts := [], laidByText := true, laidKinds := [.handle, .sentinel, .sentinel, .sentinel, .data, .data, .sentinel, .sentinel, .sentinel, .sentinel], laidTests := true, laidLooks := .later }
def FnPackageCardSaid : Prop := Claim7.holds Tryz.pinned (.plain (OpenSpec.ofChange fnPackageSpec)) fnPackageCard

/-- THE SECOND FORM's CARD OF 'laws.FnExactPackageRead'. -/
def fnExactPackageReadUptoCard : Claim7 := { stood := { row := fnExactPackageReadUptoRow, standIns := [], harness := (true, "61d4ba101d69c678fe57ea955514bfe9ec0ca10778de82d82e1fe292291fdd74"), looks := true }, kinds := [], alts := [], laidByText := true, laidKinds := [.handle, .sentinel, .sentinel, .sentinel, .sentinel, .sentinel, .sentinel, .sentinel], laidTests := true, laidLooks := .later }
def FnExactPackageReadUptoCardSaid : Prop := Claim7.holds Tryz.pinned (.plain (OpenSpec.upto fnExactPackageReadSpec)) fnExactPackageReadUptoCard

/-- THE SECOND FORM's CARD OF 'laws.FnPackage'. -/
def fnPackageUptoCard : Claim7 := { stood := { row := fnPackageUptoRow, standIns := [], harness := (true, "61d4ba101d69c678fe57ea955514bfe9ec0ca10778de82d82e1fe292291fdd74"), looks := true }, kinds := [], alts := [], laidByText := true, laidKinds := [.handle, .sentinel, .sentinel, .sentinel, .data, .data, .sentinel, .sentinel, .sentinel, .sentinel], laidTests := true, laidLooks := .later }
def FnPackageUptoCardSaid : Prop := Claim7.holds Tryz.pinned (.plain (OpenSpec.upto fnPackageSpec)) fnPackageUptoCard
end Rows
end Go.Proofs.YtcpblmpapkhppaaGreatDoor
