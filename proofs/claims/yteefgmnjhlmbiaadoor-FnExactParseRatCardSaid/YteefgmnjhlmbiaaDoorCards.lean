/-
  DERIVED. GIVEN WITH THE SEED: THE CARDS: each row of YteefgmnjhlmbiaaDoorRows.lean that lists a variable, with what it lists TIED to the program's text (the seventh form; the later family's looks); each row that meets fmt, with fmt's text TOLD by the authors' own Lean function (tested against real Go, not proved from fmt's source: count such statements apart). THE CARD IS WHAT COUNTS. Prove the row's statement (the work); the ties are given (YteefgmnjhlmbiaaDoorTie.lean); close each card by the builder's one call (the guide's Derived/Test/ToyasCard.lean, 'card_holds'). Laid BY PROGRAM, IN A SANDBOX (cutbox-door.mjs). By AI agents, Wed Nov 11 2026. No macro, syntax, notation, axiom, sorry.
-/
import Derived.Test.YteefgmnjhlmbiaaDoorRows
import GoSem.ClaimSeven
namespace Go.Proofs.YteefgmnjhlmbiaaDoor
namespace Rows

/-- THE TIED CARD OF 'laws.FnExactIsValidRat'. -/
def fnExactIsValidRatCard : Claim7 := { stood := { row := fnExactIsValidRatRow, standIns := [], harness := (true, "494677928b0e462cf28b22035f2353e99eb71bbc7b2f0ff61503a99c061b9f72"), looks := false }, kinds := [], alts := [], laidByText := true, laidKinds := [.data, .data], laidTests := true, laidLooks := .later }
def FnExactIsValidRatCardSaid : Prop := Claim7.holds Tryd.pinned (.plain (OpenSpec.ofChange fnExactIsValidRatSpec)) fnExactIsValidRatCard

/-- THE TIED CARD OF 'laws.FnExactRatOf'. -/
def fnExactRatOfCard : Claim7 := { stood := { row := fnExactRatOfRow, standIns := [], harness := (true, "494677928b0e462cf28b22035f2353e99eb71bbc7b2f0ff61503a99c061b9f72"), looks := false }, kinds := [], alts := [], laidByText := true, laidKinds := [.data, .data, .data], laidTests := true, laidLooks := .later }
def FnExactRatOfCardSaid : Prop := Claim7.holds Tryd.pinned (.plain (OpenSpec.ofChange fnExactRatOfSpec)) fnExactRatOfCard

/-- THE TIED CARD OF 'laws.FnExactAddRat'. -/
def fnExactAddRatCard : Claim7 := { stood := { row := fnExactAddRatRow, standIns := [], harness := (true, "494677928b0e462cf28b22035f2353e99eb71bbc7b2f0ff61503a99c061b9f72"), looks := false }, kinds := [], alts := [], laidByText := true, laidKinds := [.data, .data, .data, .data], laidTests := true, laidLooks := .later }
def FnExactAddRatCardSaid : Prop := Claim7.holds Tryd.pinned (.plain (OpenSpec.ofChange fnExactAddRatSpec)) fnExactAddRatCard

/-- THE TIED CARD OF 'laws.FnExactSubRat'. -/
def fnExactSubRatCard : Claim7 := { stood := { row := fnExactSubRatRow, standIns := [], harness := (true, "494677928b0e462cf28b22035f2353e99eb71bbc7b2f0ff61503a99c061b9f72"), looks := false }, kinds := [], alts := [], laidByText := true, laidKinds := [.data, .data, .data, .data], laidTests := true, laidLooks := .later }
def FnExactSubRatCardSaid : Prop := Claim7.holds Tryd.pinned (.plain (OpenSpec.ofChange fnExactSubRatSpec)) fnExactSubRatCard

/-- THE TIED CARD OF 'laws.FnExactMulRat'. -/
def fnExactMulRatCard : Claim7 := { stood := { row := fnExactMulRatRow, standIns := [], harness := (true, "494677928b0e462cf28b22035f2353e99eb71bbc7b2f0ff61503a99c061b9f72"), looks := false }, kinds := [], alts := [], laidByText := true, laidKinds := [.data, .data, .data, .data], laidTests := true, laidLooks := .later }
def FnExactMulRatCardSaid : Prop := Claim7.holds Tryd.pinned (.plain (OpenSpec.ofChange fnExactMulRatSpec)) fnExactMulRatCard

/-- THE TIED CARD OF 'laws.FnExactDivRat'. -/
def fnExactDivRatCard : Claim7 := { stood := { row := fnExactDivRatRow, standIns := [], harness := (true, "494677928b0e462cf28b22035f2353e99eb71bbc7b2f0ff61503a99c061b9f72"), looks := false }, kinds := [], alts := [], laidByText := true, laidKinds := [.data, .data, .data, .data], laidTests := true, laidLooks := .later }
def FnExactDivRatCardSaid : Prop := Claim7.holds Tryd.pinned (.plain (OpenSpec.ofChange fnExactDivRatSpec)) fnExactDivRatCard

/-- THE TIED CARD OF 'laws.FnExactCompareRat'. -/
def fnExactCompareRatCard : Claim7 := { stood := { row := fnExactCompareRatRow, standIns := [], harness := (true, "494677928b0e462cf28b22035f2353e99eb71bbc7b2f0ff61503a99c061b9f72"), looks := false }, kinds := [], alts := [], laidByText := true, laidKinds := [.data, .data], laidTests := true, laidLooks := .later }
def FnExactCompareRatCardSaid : Prop := Claim7.holds Tryd.pinned (.plain (OpenSpec.ofChange fnExactCompareRatSpec)) fnExactCompareRatCard

/-- THE TIED CARD OF 'laws.FnExactPowRat'. -/
def fnExactPowRatCard : Claim7 := { stood := { row := fnExactPowRatRow, standIns := [], harness := (true, "494677928b0e462cf28b22035f2353e99eb71bbc7b2f0ff61503a99c061b9f72"), looks := false }, kinds := [], alts := [], laidByText := true, laidKinds := [.data, .data, .data, .data], laidTests := true, laidLooks := .later }
def FnExactPowRatCardSaid : Prop := Claim7.holds Tryd.pinned (.plain (OpenSpec.ofChange fnExactPowRatSpec)) fnExactPowRatCard

/-- THE TIED CARD OF 'laws.FnExactFormatRat'. -/
def fnExactFormatRatCard : Claim7 := { stood := { row := fnExactFormatRatRow, standIns := [], harness := (true, "494677928b0e462cf28b22035f2353e99eb71bbc7b2f0ff61503a99c061b9f72"), looks := false }, kinds := [], alts := [], laidByText := true, laidKinds := [.data, .data], laidTests := true, laidLooks := .later }
def FnExactFormatRatCardSaid : Prop := Claim7.holds Tryd.pinned (.plain (OpenSpec.ofChange fnExactFormatRatSpec)) fnExactFormatRatCard

/-- THE TIED CARD OF 'laws.FnExactParseRat'. -/
def fnExactParseRatCard : Claim7 := { stood := { row := fnExactParseRatRow, standIns := [], harness := (true, "494677928b0e462cf28b22035f2353e99eb71bbc7b2f0ff61503a99c061b9f72"), looks := false }, kinds := [], alts := [], laidByText := true, laidKinds := [.data, .data], laidTests := true, laidLooks := .later }
def FnExactParseRatCardSaid : Prop := Claim7.holds Tryd.pinned (.plain (OpenSpec.ofChange fnExactParseRatSpec)) fnExactParseRatCard

/-- THE TIED CARD OF 'laws.FnExactDecimalOf'. -/
def fnExactDecimalOfCard : Claim7 := { stood := { row := fnExactDecimalOfRow, standIns := [], harness := (true, "494677928b0e462cf28b22035f2353e99eb71bbc7b2f0ff61503a99c061b9f72"), looks := false }, kinds := [], alts := [], laidByText := true, laidKinds := [.data, .data, .data, .data], laidTests := true, laidLooks := .later }
def FnExactDecimalOfCardSaid : Prop := Claim7.holds Tryd.pinned (.plain (OpenSpec.ofChange fnExactDecimalOfSpec)) fnExactDecimalOfCard

/-- THE SECOND FORM's CARD OF 'laws.FnExactIsValidRat'. -/
def fnExactIsValidRatUptoCard : Claim7 := { stood := { row := fnExactIsValidRatUptoRow, standIns := [], harness := (true, "494677928b0e462cf28b22035f2353e99eb71bbc7b2f0ff61503a99c061b9f72"), looks := false }, kinds := [], alts := [], laidByText := true, laidKinds := [.data, .data], laidTests := true, laidLooks := .later }
def FnExactIsValidRatUptoCardSaid : Prop := Claim7.holds Tryd.pinned (.plain (OpenSpec.upto fnExactIsValidRatSpec)) fnExactIsValidRatUptoCard

/-- THE SECOND FORM's CARD OF 'laws.FnExactRatOf'. -/
def fnExactRatOfUptoCard : Claim7 := { stood := { row := fnExactRatOfUptoRow, standIns := [], harness := (true, "494677928b0e462cf28b22035f2353e99eb71bbc7b2f0ff61503a99c061b9f72"), looks := false }, kinds := [], alts := [], laidByText := true, laidKinds := [.data, .data, .data], laidTests := true, laidLooks := .later }
def FnExactRatOfUptoCardSaid : Prop := Claim7.holds Tryd.pinned (.plain (OpenSpec.upto fnExactRatOfSpec)) fnExactRatOfUptoCard

/-- THE SECOND FORM's CARD OF 'laws.FnExactAddRat'. -/
def fnExactAddRatUptoCard : Claim7 := { stood := { row := fnExactAddRatUptoRow, standIns := [], harness := (true, "494677928b0e462cf28b22035f2353e99eb71bbc7b2f0ff61503a99c061b9f72"), looks := false }, kinds := [], alts := [], laidByText := true, laidKinds := [.data, .data, .data, .data], laidTests := true, laidLooks := .later }
def FnExactAddRatUptoCardSaid : Prop := Claim7.holds Tryd.pinned (.plain (OpenSpec.upto fnExactAddRatSpec)) fnExactAddRatUptoCard

/-- THE SECOND FORM's CARD OF 'laws.FnExactSubRat'. -/
def fnExactSubRatUptoCard : Claim7 := { stood := { row := fnExactSubRatUptoRow, standIns := [], harness := (true, "494677928b0e462cf28b22035f2353e99eb71bbc7b2f0ff61503a99c061b9f72"), looks := false }, kinds := [], alts := [], laidByText := true, laidKinds := [.data, .data, .data, .data], laidTests := true, laidLooks := .later }
def FnExactSubRatUptoCardSaid : Prop := Claim7.holds Tryd.pinned (.plain (OpenSpec.upto fnExactSubRatSpec)) fnExactSubRatUptoCard

/-- THE SECOND FORM's CARD OF 'laws.FnExactMulRat'. -/
def fnExactMulRatUptoCard : Claim7 := { stood := { row := fnExactMulRatUptoRow, standIns := [], harness := (true, "494677928b0e462cf28b22035f2353e99eb71bbc7b2f0ff61503a99c061b9f72"), looks := false }, kinds := [], alts := [], laidByText := true, laidKinds := [.data, .data, .data, .data], laidTests := true, laidLooks := .later }
def FnExactMulRatUptoCardSaid : Prop := Claim7.holds Tryd.pinned (.plain (OpenSpec.upto fnExactMulRatSpec)) fnExactMulRatUptoCard

/-- THE SECOND FORM's CARD OF 'laws.FnExactDivRat'. -/
def fnExactDivRatUptoCard : Claim7 := { stood := { row := fnExactDivRatUptoRow, standIns := [], harness := (true, "494677928b0e462cf28b22035f2353e99eb71bbc7b2f0ff61503a99c061b9f72"), looks := false }, kinds := [], alts := [], laidByText := true, laidKinds := [.data, .data, .data, .data], laidTests := true, laidLooks := .later }
def FnExactDivRatUptoCardSaid : Prop := Claim7.holds Tryd.pinned (.plain (OpenSpec.upto fnExactDivRatSpec)) fnExactDivRatUptoCard

/-- THE SECOND FORM's CARD OF 'laws.FnExactCompareRat'. -/
def fnExactCompareRatUptoCard : Claim7 := { stood := { row := fnExactCompareRatUptoRow, standIns := [], harness := (true, "494677928b0e462cf28b22035f2353e99eb71bbc7b2f0ff61503a99c061b9f72"), looks := false }, kinds := [], alts := [], laidByText := true, laidKinds := [.data, .data], laidTests := true, laidLooks := .later }
def FnExactCompareRatUptoCardSaid : Prop := Claim7.holds Tryd.pinned (.plain (OpenSpec.upto fnExactCompareRatSpec)) fnExactCompareRatUptoCard

/-- THE SECOND FORM's CARD OF 'laws.FnExactPowRat'. -/
def fnExactPowRatUptoCard : Claim7 := { stood := { row := fnExactPowRatUptoRow, standIns := [], harness := (true, "494677928b0e462cf28b22035f2353e99eb71bbc7b2f0ff61503a99c061b9f72"), looks := false }, kinds := [], alts := [], laidByText := true, laidKinds := [.data, .data, .data, .data], laidTests := true, laidLooks := .later }
def FnExactPowRatUptoCardSaid : Prop := Claim7.holds Tryd.pinned (.plain (OpenSpec.upto fnExactPowRatSpec)) fnExactPowRatUptoCard

/-- THE SECOND FORM's CARD OF 'laws.FnExactFormatRat'. -/
def fnExactFormatRatUptoCard : Claim7 := { stood := { row := fnExactFormatRatUptoRow, standIns := [], harness := (true, "494677928b0e462cf28b22035f2353e99eb71bbc7b2f0ff61503a99c061b9f72"), looks := false }, kinds := [], alts := [], laidByText := true, laidKinds := [.data, .data], laidTests := true, laidLooks := .later }
def FnExactFormatRatUptoCardSaid : Prop := Claim7.holds Tryd.pinned (.plain (OpenSpec.upto fnExactFormatRatSpec)) fnExactFormatRatUptoCard

/-- THE SECOND FORM's CARD OF 'laws.FnExactParseRat'. -/
def fnExactParseRatUptoCard : Claim7 := { stood := { row := fnExactParseRatUptoRow, standIns := [], harness := (true, "494677928b0e462cf28b22035f2353e99eb71bbc7b2f0ff61503a99c061b9f72"), looks := false }, kinds := [], alts := [], laidByText := true, laidKinds := [.data, .data], laidTests := true, laidLooks := .later }
def FnExactParseRatUptoCardSaid : Prop := Claim7.holds Tryd.pinned (.plain (OpenSpec.upto fnExactParseRatSpec)) fnExactParseRatUptoCard

/-- THE SECOND FORM's CARD OF 'laws.FnExactDecimalOf'. -/
def fnExactDecimalOfUptoCard : Claim7 := { stood := { row := fnExactDecimalOfUptoRow, standIns := [], harness := (true, "494677928b0e462cf28b22035f2353e99eb71bbc7b2f0ff61503a99c061b9f72"), looks := false }, kinds := [], alts := [], laidByText := true, laidKinds := [.data, .data, .data, .data], laidTests := true, laidLooks := .later }
def FnExactDecimalOfUptoCardSaid : Prop := Claim7.holds Tryd.pinned (.plain (OpenSpec.upto fnExactDecimalOfSpec)) fnExactDecimalOfUptoCard
end Rows
end Go.Proofs.YteefgmnjhlmbiaaDoor
