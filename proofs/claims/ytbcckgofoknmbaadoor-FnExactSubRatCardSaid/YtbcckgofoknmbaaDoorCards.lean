/-
  DERIVED. GIVEN WITH THE SEED: THE CARDS: each row of YtbcckgofoknmbaaDoorRows.lean that lists a variable, with what it lists TIED to the program's text (the seventh form; the later family's looks); each row that meets fmt, with fmt's text TOLD by the authors' own Lean function (tested against real Go, not proved from fmt's source: count such statements apart). THE CARD IS WHAT COUNTS. Prove the row's statement (the work); the ties are given (YtbcckgofoknmbaaDoorTie.lean); close each card by the builder's one call (the guide's Derived/Test/ToyasCard.lean, 'card_holds'). Laid BY PROGRAM, IN A SANDBOX (cutbox-door.mjs). By AI agents, Wed Nov 11 2026. No macro, syntax, notation, axiom, sorry.
-/
import Derived.Test.YtbcckgofoknmbaaDoorRows
import GoSem.ClaimSeven
namespace Go.Proofs.YtbcckgofoknmbaaDoor
namespace Rows

/-- THE TIED CARD OF 'laws.FnExactSubRat'. -/
def fnExactSubRatCard : Claim7 := { stood := { row := fnExactSubRatRow, standIns := [], harness := (true, "4d22807a0ebd7fe465539df847fea82afdd6819857920d8c52eb08b63700f4cf"), looks := false }, kinds := [], alts := [], laidByText := true, laidKinds := [.data, .data, .data, .data], laidTests := true, laidLooks := .later }
def FnExactSubRatCardSaid : Prop := Claim7.holds Tryd.pinned (.plain (OpenSpec.ofChange fnExactSubRatSpec)) fnExactSubRatCard

/-- THE SECOND FORM's CARD OF 'laws.FnExactSubRat'. -/
def fnExactSubRatUptoCard : Claim7 := { stood := { row := fnExactSubRatUptoRow, standIns := [], harness := (true, "4d22807a0ebd7fe465539df847fea82afdd6819857920d8c52eb08b63700f4cf"), looks := false }, kinds := [], alts := [], laidByText := true, laidKinds := [.data, .data, .data, .data], laidTests := true, laidLooks := .later }
def FnExactSubRatUptoCardSaid : Prop := Claim7.holds Tryd.pinned (.plain (OpenSpec.upto fnExactSubRatSpec)) fnExactSubRatUptoCard
end Rows
end Go.Proofs.YtbcckgofoknmbaaDoor
