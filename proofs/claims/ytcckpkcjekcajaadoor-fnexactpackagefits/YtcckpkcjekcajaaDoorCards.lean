/-
  DERIVED. GIVEN WITH THE SEED: THE CARDS: each row of YtcckpkcjekcajaaDoorRows.lean that lists a variable, with what it lists TIED to the program's text (the seventh form; the later family's looks); each row that meets fmt, with fmt's text TOLD by the authors' own Lean function (tested against real Go, not proved from fmt's source: count such statements apart). THE CARD IS WHAT COUNTS. Prove the row's statement (the work); the ties are given (YtcckpkcjekcajaaDoorTie.lean); close each card by the builder's one call (the guide's Derived/Test/ToyasCard.lean, 'card_holds'). Laid BY PROGRAM, IN A SANDBOX (cutbox-door.mjs). By AI agents, Wed Nov 11 2026. No macro, syntax, notation, axiom, sorry.
-/
import Derived.Test.YtcckpkcjekcajaaDoorRows
import GoSem.ClaimSeven
namespace Go.Proofs.YtcckpkcjekcajaaDoor
namespace Rows

/-- THE TIED CARD OF 'laws.FnImage'. -/
def fnImageCard : Claim7 := { stood := { row := fnImageRow, standIns := [], harness := (true, "a4ac868af9f8def51fd03cd99157e86b44475b970882808ff4059c4952de68c2"), looks := true }, kinds := [], alts := [], laidByText := true, laidKinds := [.data, .data], laidTests := true, laidLooks := .later }
def FnImageCardSaid : Prop := Claim7.holds Tryd.pinned (.plain (OpenSpec.ofChange fnImageSpec)) fnImageCard

/-- THE TIED CARD OF 'laws.FnExactPackageFits'. -/
def fnExactPackageFitsCard : Claim7 := { stood := { row := fnExactPackageFitsRow, standIns := [], harness := (true, "a4ac868af9f8def51fd03cd99157e86b44475b970882808ff4059c4952de68c2"), looks := true }, kinds := [], alts := [], laidByText := true, laidKinds := [.data, .data], laidTests := true, laidLooks := .later }
def FnExactPackageFitsCardSaid : Prop := Claim7.holds Tryd.pinned (.plain (OpenSpec.ofChange fnExactPackageFitsSpec)) fnExactPackageFitsCard

/-- THE SECOND FORM's CARD OF 'laws.FnImage'. -/
def fnImageUptoCard : Claim7 := { stood := { row := fnImageUptoRow, standIns := [], harness := (true, "a4ac868af9f8def51fd03cd99157e86b44475b970882808ff4059c4952de68c2"), looks := true }, kinds := [], alts := [], laidByText := true, laidKinds := [.data, .data], laidTests := true, laidLooks := .later }
def FnImageUptoCardSaid : Prop := Claim7.holds Tryd.pinned (.plain (OpenSpec.upto fnImageSpec)) fnImageUptoCard

/-- THE SECOND FORM's CARD OF 'laws.FnExactPackageFits'. -/
def fnExactPackageFitsUptoCard : Claim7 := { stood := { row := fnExactPackageFitsUptoRow, standIns := [], harness := (true, "a4ac868af9f8def51fd03cd99157e86b44475b970882808ff4059c4952de68c2"), looks := true }, kinds := [], alts := [], laidByText := true, laidKinds := [.data, .data], laidTests := true, laidLooks := .later }
def FnExactPackageFitsUptoCardSaid : Prop := Claim7.holds Tryd.pinned (.plain (OpenSpec.upto fnExactPackageFitsSpec)) fnExactPackageFitsUptoCard
end Rows
end Go.Proofs.YtcckpkcjekcajaaDoor
