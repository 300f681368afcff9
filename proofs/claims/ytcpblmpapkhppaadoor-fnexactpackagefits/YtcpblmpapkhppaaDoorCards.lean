/-
  DERIVED. GIVEN WITH THE SEED: THE CARDS: each row of YtcpblmpapkhppaaDoorRows.lean that lists a variable, with what it lists TIED to the program's text (the seventh form; the later family's looks); each row that meets fmt, with fmt's text TOLD by the authors' own Lean function (tested against real Go, not proved from fmt's source: count such statements apart). THE CARD IS WHAT COUNTS. Prove the row's statement (the work); the ties are given (YtcpblmpapkhppaaDoorTie.lean); close each card by the builder's one call (the guide's Derived/Test/ToyasCard.lean, 'card_holds'). Laid BY PROGRAM, IN A SANDBOX (cutbox-door.mjs). By AI agents, Wed Nov 11 2026. No macro, syntax, notation, axiom, sorry.
-/
import Derived.Test.YtcpblmpapkhppaaDoorRows
import GoSem.ClaimSeven
namespace Go.Proofs.YtcpblmpapkhppaaDoor
namespace Rows

/-- THE TIED CARD OF 'laws.FnExactPackageOf'. -/
def fnExactPackageOfCard : Claim7 := { stood := { row := fnExactPackageOfRow, standIns := [], harness := (true, "60949e7734650e955c9f63ce6674dcaa1b66c2028a9e4ea85432fe0e2176737e"), looks := true }, kinds := [], alts := [], laidByText := true, laidKinds := [.data, .data], laidTests := true, laidLooks := .later }
def FnExactPackageOfCardSaid : Prop := Claim7.holds Tryd.pinned (.plain (OpenSpec.ofChange fnExactPackageOfSpec)) fnExactPackageOfCard

/-- THE TIED CARD OF 'laws.FnExactPackageFits'. -/
def fnExactPackageFitsCard : Claim7 := { stood := { row := fnExactPackageFitsRow, standIns := [], harness := (true, "60949e7734650e955c9f63ce6674dcaa1b66c2028a9e4ea85432fe0e2176737e"), looks := true }, kinds := [], alts := [], laidByText := true, laidKinds := [.data, .data], laidTests := true, laidLooks := .later }
def FnExactPackageFitsCardSaid : Prop := Claim7.holds Tryd.pinned (.plain (OpenSpec.ofChange fnExactPackageFitsSpec)) fnExactPackageFitsCard

/-- THE TIED CARD OF 'laws.FnExactUnseal'. -/
def fnExactUnsealCard : Claim7 := { stood := { row := fnExactUnsealRow, standIns := [], harness := (true, "60949e7734650e955c9f63ce6674dcaa1b66c2028a9e4ea85432fe0e2176737e"), looks := true }, kinds := [], alts := [], laidByText := true, laidKinds := [.sentinel, .sentinel, .sentinel], laidTests := true, laidLooks := .later }
def FnExactUnsealCardSaid : Prop := Claim7.holds Tryd.pinned (.plain (OpenSpec.ofChange fnExactUnsealSpec)) fnExactUnsealCard

/-- THE TIED CARD OF 'laws.FnExactStepRead'. -/
def fnExactStepReadCard : Claim7 := { stood := { row := fnExactStepReadRow, standIns := [], harness := (true, "60949e7734650e955c9f63ce6674dcaa1b66c2028a9e4ea85432fe0e2176737e"), looks := true }, kinds := [], alts := [], laidByText := true, laidKinds := [.handle], laidTests := true, laidLooks := .later }
def FnExactStepReadCardSaid : Prop := Claim7.holds Tryd.pinned (.plain (OpenSpec.ofChange fnExactStepReadSpec)) fnExactStepReadCard

/-- THE TIED CARD OF 'laws.FnStep'. -/
def fnStepCard : Claim7 := { stood := { row := fnStepRow, standIns := [], harness := (true, "60949e7734650e955c9f63ce6674dcaa1b66c2028a9e4ea85432fe0e2176737e"), looks := true }, kinds := [], alts := [], laidByText := true, laidKinds := [.handle], laidTests := true, laidLooks := .later }
def FnStepCardSaid : Prop := Claim7.holds Tryd.pinned (.plain (OpenSpec.ofChange fnStepSpec)) fnStepCard

/-- THE TIED CARD OF 'laws.FnSeal'. -/
def fnSealCard : Claim7 := { stood := { row := fnSealRow, standIns := [], harness := (true, "60949e7734650e955c9f63ce6674dcaa1b66c2028a9e4ea85432fe0e2176737e"), looks := true }, kinds := [], alts := [], laidByText := true, laidKinds := [.sentinel, .sentinel, .sentinel], laidTests := true, laidLooks := .later }
def FnSealCardSaid : Prop := Claim7.holds Tryd.pinned (.plain (OpenSpec.ofChange fnSealSpec)) fnSealCard

/-- THE TIED CARD OF 'laws.FnNums'. -/
def fnNumsCard : Claim7 := { stood := { row := fnNumsRow, standIns := [], harness := (true, "60949e7734650e955c9f63ce6674dcaa1b66c2028a9e4ea85432fe0e2176737e"), looks := true }, kinds := [], alts := [], laidByText := true, laidKinds := [.handle], laidTests := true, laidLooks := .later }
def FnNumsCardSaid : Prop := Claim7.holds Tryd.pinned (.plain (OpenSpec.ofChange fnNumsSpec)) fnNumsCard

/-- THE TIED CARD OF 'laws.FnExactMetaRead'. -/
def fnExactMetaReadCard : Claim7 := { stood := { row := fnExactMetaReadRow, standIns := [], harness := (true, "60949e7734650e955c9f63ce6674dcaa1b66c2028a9e4ea85432fe0e2176737e"), looks := true }, kinds := [], alts := [], laidByText := true, laidKinds := [.handle, .sentinel, .sentinel, .sentinel, .sentinel, .sentinel, .sentinel], laidTests := true, laidLooks := .later }
def FnExactMetaReadCardSaid : Prop := Claim7.holds Tryd.pinned (.plain (OpenSpec.ofChange fnExactMetaReadSpec)) fnExactMetaReadCard

/-- THE SECOND FORM's CARD OF 'laws.FnExactPackageOf'. -/
def fnExactPackageOfUptoCard : Claim7 := { stood := { row := fnExactPackageOfUptoRow, standIns := [], harness := (true, "60949e7734650e955c9f63ce6674dcaa1b66c2028a9e4ea85432fe0e2176737e"), looks := true }, kinds := [], alts := [], laidByText := true, laidKinds := [.data, .data], laidTests := true, laidLooks := .later }
def FnExactPackageOfUptoCardSaid : Prop := Claim7.holds Tryd.pinned (.plain (OpenSpec.upto fnExactPackageOfSpec)) fnExactPackageOfUptoCard

/-- THE SECOND FORM's CARD OF 'laws.FnExactPackageFits'. -/
def fnExactPackageFitsUptoCard : Claim7 := { stood := { row := fnExactPackageFitsUptoRow, standIns := [], harness := (true, "60949e7734650e955c9f63ce6674dcaa1b66c2028a9e4ea85432fe0e2176737e"), looks := true }, kinds := [], alts := [], laidByText := true, laidKinds := [.data, .data], laidTests := true, laidLooks := .later }
def FnExactPackageFitsUptoCardSaid : Prop := Claim7.holds Tryd.pinned (.plain (OpenSpec.upto fnExactPackageFitsSpec)) fnExactPackageFitsUptoCard

/-- THE SECOND FORM's CARD OF 'laws.FnExactUnseal'. -/
def fnExactUnsealUptoCard : Claim7 := { stood := { row := fnExactUnsealUptoRow, standIns := [], harness := (true, "60949e7734650e955c9f63ce6674dcaa1b66c2028a9e4ea85432fe0e2176737e"), looks := true }, kinds := [], alts := [], laidByText := true, laidKinds := [.sentinel, .sentinel, .sentinel], laidTests := true, laidLooks := .later }
def FnExactUnsealUptoCardSaid : Prop := Claim7.holds Tryd.pinned (.plain (OpenSpec.upto fnExactUnsealSpec)) fnExactUnsealUptoCard

/-- THE SECOND FORM's CARD OF 'laws.FnExactStepRead'. -/
def fnExactStepReadUptoCard : Claim7 := { stood := { row := fnExactStepReadUptoRow, standIns := [], harness := (true, "60949e7734650e955c9f63ce6674dcaa1b66c2028a9e4ea85432fe0e2176737e"), looks := true }, kinds := [], alts := [], laidByText := true, laidKinds := [.handle], laidTests := true, laidLooks := .later }
def FnExactStepReadUptoCardSaid : Prop := Claim7.holds Tryd.pinned (.plain (OpenSpec.upto fnExactStepReadSpec)) fnExactStepReadUptoCard

/-- THE SECOND FORM's CARD OF 'laws.FnStep'. -/
def fnStepUptoCard : Claim7 := { stood := { row := fnStepUptoRow, standIns := [], harness := (true, "60949e7734650e955c9f63ce6674dcaa1b66c2028a9e4ea85432fe0e2176737e"), looks := true }, kinds := [], alts := [], laidByText := true, laidKinds := [.handle], laidTests := true, laidLooks := .later }
def FnStepUptoCardSaid : Prop := Claim7.holds Tryd.pinned (.plain (OpenSpec.upto fnStepSpec)) fnStepUptoCard

/-- THE SECOND FORM's CARD OF 'laws.FnSeal'. -/
def fnSealUptoCard : Claim7 := { stood := { row := fnSealUptoRow, standIns := [], harness := (true, "60949e7734650e955c9f63ce6674dcaa1b66c2028a9e4ea85432fe0e2176737e"), looks := true }, kinds := [], alts := [], laidByText := true, laidKinds := [.sentinel, .sentinel, .sentinel], laidTests := true, laidLooks := .later }
def FnSealUptoCardSaid : Prop := Claim7.holds Tryd.pinned (.plain (OpenSpec.upto fnSealSpec)) fnSealUptoCard

/-- THE SECOND FORM's CARD OF 'laws.FnNums'. -/
def fnNumsUptoCard : Claim7 := { stood := { row := fnNumsUptoRow, standIns := [], harness := (true, "60949e7734650e955c9f63ce6674dcaa1b66c2028a9e4ea85432fe0e2176737e"), looks := true }, kinds := [], alts := [], laidByText := true, laidKinds := [.handle], laidTests := true, laidLooks := .later }
def FnNumsUptoCardSaid : Prop := Claim7.holds Tryd.pinned (.plain (OpenSpec.upto fnNumsSpec)) fnNumsUptoCard

/-- THE SECOND FORM's CARD OF 'laws.FnExactMetaRead'. -/
def fnExactMetaReadUptoCard : Claim7 := { stood := { row := fnExactMetaReadUptoRow, standIns := [], harness := (true, "60949e7734650e955c9f63ce6674dcaa1b66c2028a9e4ea85432fe0e2176737e"), looks := true }, kinds := [], alts := [], laidByText := true, laidKinds := [.handle, .sentinel, .sentinel, .sentinel, .sentinel, .sentinel, .sentinel], laidTests := true, laidLooks := .later }
def FnExactMetaReadUptoCardSaid : Prop := Claim7.holds Tryd.pinned (.plain (OpenSpec.upto fnExactMetaReadSpec)) fnExactMetaReadUptoCard
end Rows
end Go.Proofs.YtcpblmpapkhppaaDoor
