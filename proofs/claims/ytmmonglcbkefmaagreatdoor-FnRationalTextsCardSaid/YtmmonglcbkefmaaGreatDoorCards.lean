/-
  DERIVED. GIVEN WITH THE SEED: THE CARDS: each row of YtmmonglcbkefmaaGreatDoorRows.lean that lists a variable, with what it lists TIED to the program's text (the seventh form; the later family's looks); each row that meets fmt, with fmt's text TOLD by the authors' own Lean function (tested against real Go, not proved from fmt's source: count such statements apart). THE CARD IS WHAT COUNTS. Prove the row's statement (the work); the ties are given (YtmmonglcbkefmaaGreatDoorTie.lean); close each card by the builder's one call (the guide's Derived/Test/ToyasCard.lean, 'card_holds'). Laid BY PROGRAM, IN A SANDBOX (cutbox-door.mjs). By AI agents, Wed Nov 11 2026. No macro, syntax, notation, axiom, sorry.
-/
import Derived.Test.YtmmonglcbkefmaaGreatDoorRows
import GoSem.ClaimSeven
namespace Go.Proofs.YtmmonglcbkefmaaGreatDoor
namespace Rows

/-- THE TIED CARD OF 'laws.FnRationals'. -/
def fnRationalsCard : Claim7 := { stood := { row := fnRationalsRow, standIns := [], harness := (true, "e91600b81846786f61964d28df56b98843542c41528850e90880439721bfe1a1"), looks := false }, kinds := [], alts := [], laidByText := true, laidKinds := [.data, .data, .data, .data], laidTests := true, laidLooks := .later }
def FnRationalsCardSaid : Prop := Claim7.holds Tryz.pinned (.plain (OpenSpec.ofChange fnRationalsSpec)) fnRationalsCard

/-- THE TIED CARD OF 'laws.FnRationalTexts'. -/
def fnRationalTextsCard : Claim7 := { stood := { row := fnRationalTextsRow, standIns := [], harness := (true, "e91600b81846786f61964d28df56b98843542c41528850e90880439721bfe1a1"), looks := false }, kinds := [], alts := [], laidByText := true, laidKinds := [.data, .data, .data, .data], laidTests := true, laidLooks := .later }
def FnRationalTextsCardSaid : Prop := Claim7.holds Tryz.pinned (.plain (OpenSpec.ofChange fnRationalTextsSpec)) fnRationalTextsCard

/-- THE TIED CARD OF 'laws.FnExactSumRats'. -/
def fnExactSumRatsCard : Claim7 := { stood := { row := fnExactSumRatsRow, standIns := [], harness := (true, "e91600b81846786f61964d28df56b98843542c41528850e90880439721bfe1a1"), looks := false }, kinds := [], alts := [], laidByText := true, laidKinds := [.data, .data, .data, .data], laidTests := true, laidLooks := .later }
def FnExactSumRatsCardSaid : Prop := Claim7.holds Tryz.pinned (.plain (OpenSpec.ofChange fnExactSumRatsSpec)) fnExactSumRatsCard

/-- THE SECOND FORM's CARD OF 'laws.FnRationals'. -/
def fnRationalsUptoCard : Claim7 := { stood := { row := fnRationalsUptoRow, standIns := [], harness := (true, "e91600b81846786f61964d28df56b98843542c41528850e90880439721bfe1a1"), looks := false }, kinds := [], alts := [], laidByText := true, laidKinds := [.data, .data, .data, .data], laidTests := true, laidLooks := .later }
def FnRationalsUptoCardSaid : Prop := Claim7.holds Tryz.pinned (.plain (OpenSpec.upto fnRationalsSpec)) fnRationalsUptoCard

/-- THE SECOND FORM's CARD OF 'laws.FnRationalTexts'. -/
def fnRationalTextsUptoCard : Claim7 := { stood := { row := fnRationalTextsUptoRow, standIns := [], harness := (true, "e91600b81846786f61964d28df56b98843542c41528850e90880439721bfe1a1"), looks := false }, kinds := [], alts := [], laidByText := true, laidKinds := [.data, .data, .data, .data], laidTests := true, laidLooks := .later }
def FnRationalTextsUptoCardSaid : Prop := Claim7.holds Tryz.pinned (.plain (OpenSpec.upto fnRationalTextsSpec)) fnRationalTextsUptoCard

/-- THE SECOND FORM's CARD OF 'laws.FnExactSumRats'. -/
def fnExactSumRatsUptoCard : Claim7 := { stood := { row := fnExactSumRatsUptoRow, standIns := [], harness := (true, "e91600b81846786f61964d28df56b98843542c41528850e90880439721bfe1a1"), looks := false }, kinds := [], alts := [], laidByText := true, laidKinds := [.data, .data, .data, .data], laidTests := true, laidLooks := .later }
def FnExactSumRatsUptoCardSaid : Prop := Claim7.holds Tryz.pinned (.plain (OpenSpec.upto fnExactSumRatsSpec)) fnExactSumRatsUptoCard
end Rows
end Go.Proofs.YtmmonglcbkefmaaGreatDoor
