/-
  DERIVED. GIVEN WITH THE SEED: THE CARDS: each row of YtgiiclkjffdjgaaDoorRows.lean that lists a variable, with what it lists TIED to the program's text (the seventh form; the later family's looks); each row that meets fmt, with fmt's text TOLD by the authors' own Lean function (tested against real Go, not proved from fmt's source: count such statements apart). THE CARD IS WHAT COUNTS. Prove the row's statement (the work); the ties are given (YtgiiclkjffdjgaaDoorTie.lean); close each card by the builder's one call (the guide's Derived/Test/ToyasCard.lean, 'card_holds'). Laid BY PROGRAM, IN A SANDBOX (cutbox-door.mjs). By AI agents, Wed Nov 11 2026. No macro, syntax, notation, axiom, sorry.
-/
import Derived.Test.YtgiiclkjffdjgaaDoorRows
import GoSem.ClaimSeven
namespace Go.Proofs.YtgiiclkjffdjgaaDoor
namespace Rows

/-- THE TIED CARD OF 'laws.FnImage'. -/
def fnImageCard : Claim7 := { stood := { row := fnImageRow, standIns := [], harness := (true, "e4712a45f236def5b20bb86485dc3043ef896904019fe0e300e7d033fbbe1e75"), looks := true }, kinds := [], alts := [], laidByText := true, laidKinds := [.data, .data], laidTests := true, laidLooks := .later }
def FnImageCardSaid : Prop := Claim7.holds Tryd.pinned (.plain (OpenSpec.ofChange fnImageSpec)) fnImageCard

/-- THE TIED CARD OF 'laws.FnExactImageDigest'. -/
def fnExactImageDigestCard : Claim7 := { stood := { row := fnExactImageDigestRow, standIns := [], harness := (true, "e4712a45f236def5b20bb86485dc3043ef896904019fe0e300e7d033fbbe1e75"), looks := true }, kinds := [], alts := [], laidByText := true, laidKinds := [.data, .data], laidTests := true, laidLooks := .later }
def FnExactImageDigestCardSaid : Prop := Claim7.holds Tryd.pinned (.plain (OpenSpec.ofChange fnExactImageDigestSpec)) fnExactImageDigestCard

/-- THE SECOND FORM's CARD OF 'laws.FnImage'. -/
def fnImageUptoCard : Claim7 := { stood := { row := fnImageUptoRow, standIns := [], harness := (true, "e4712a45f236def5b20bb86485dc3043ef896904019fe0e300e7d033fbbe1e75"), looks := true }, kinds := [], alts := [], laidByText := true, laidKinds := [.data, .data], laidTests := true, laidLooks := .later }
def FnImageUptoCardSaid : Prop := Claim7.holds Tryd.pinned (.plain (OpenSpec.upto fnImageSpec)) fnImageUptoCard

/-- THE SECOND FORM's CARD OF 'laws.FnExactImageDigest'. -/
def fnExactImageDigestUptoCard : Claim7 := { stood := { row := fnExactImageDigestUptoRow, standIns := [], harness := (true, "e4712a45f236def5b20bb86485dc3043ef896904019fe0e300e7d033fbbe1e75"), looks := true }, kinds := [], alts := [], laidByText := true, laidKinds := [.data, .data], laidTests := true, laidLooks := .later }
def FnExactImageDigestUptoCardSaid : Prop := Claim7.holds Tryd.pinned (.plain (OpenSpec.upto fnExactImageDigestSpec)) fnExactImageDigestUptoCard
end Rows
end Go.Proofs.YtgiiclkjffdjgaaDoor
