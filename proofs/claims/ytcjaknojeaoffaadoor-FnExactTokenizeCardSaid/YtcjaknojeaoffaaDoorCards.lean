/-
  DERIVED. GIVEN WITH THE SEED: THE CARDS: each row of YtcjaknojeaoffaaDoorRows.lean that lists a variable, with what it lists TIED to the program's text (the seventh form; the later family's looks); each row that meets fmt, with fmt's text TOLD by the authors' own Lean function (tested against real Go, not proved from fmt's source: count such statements apart). THE CARD IS WHAT COUNTS. Prove the row's statement (the work); the ties are given (YtcjaknojeaoffaaDoorTie.lean); close each card by the builder's one call (the guide's Derived/Test/ToyasCard.lean, 'card_holds'). Laid BY PROGRAM, IN A SANDBOX (cutbox-door.mjs). By AI agents, Wed Nov 11 2026. No macro, syntax, notation, axiom, sorry.
-/
import Derived.Test.YtcjaknojeaoffaaDoorRows
import GoSem.ClaimSeven
namespace Go.Proofs.YtcjaknojeaoffaaDoor
namespace Rows

/-- THE TIED CARD OF 'laws.FnExactFormatDNF'. -/
def fnExactFormatDNFCard : Claim7 := { stood := { row := fnExactFormatDNFRow, standIns := [], harness := (true, "c1281e0fb7833635f1c1ff465f6321a7a2f79d7e547aa911e3e07612114c4272"), looks := false }, kinds := [], alts := [], laidByText := true, laidKinds := [.data, .data, .data, .pinned], laidTests := true, laidLooks := .later }
def FnExactFormatDNFCardSaid : Prop := Claim7.holds Tryd.pinned (.plain (OpenSpec.ofChange fnExactFormatDNFSpec)) fnExactFormatDNFCard

/-- THE TIED CARD OF 'laws.FnExactTokenize'. -/
def fnExactTokenizeCard : Claim7 := { stood := { row := fnExactTokenizeRow, standIns := [], harness := (true, "c1281e0fb7833635f1c1ff465f6321a7a2f79d7e547aa911e3e07612114c4272"), looks := false }, kinds := [], alts := [], laidByText := true, laidKinds := [.data, .pinned], laidTests := true, laidLooks := .later }
def FnExactTokenizeCardSaid : Prop := Claim7.holds Tryd.pinned (.plain (OpenSpec.ofChange fnExactTokenizeSpec)) fnExactTokenizeCard

/-- THE SECOND FORM's CARD OF 'laws.FnExactFormatDNF'. -/
def fnExactFormatDNFUptoCard : Claim7 := { stood := { row := fnExactFormatDNFUptoRow, standIns := [], harness := (true, "c1281e0fb7833635f1c1ff465f6321a7a2f79d7e547aa911e3e07612114c4272"), looks := false }, kinds := [], alts := [], laidByText := true, laidKinds := [.data, .data, .data, .pinned], laidTests := true, laidLooks := .later }
def FnExactFormatDNFUptoCardSaid : Prop := Claim7.holds Tryd.pinned (.plain (OpenSpec.upto fnExactFormatDNFSpec)) fnExactFormatDNFUptoCard

/-- THE SECOND FORM's CARD OF 'laws.FnExactTokenize'. -/
def fnExactTokenizeUptoCard : Claim7 := { stood := { row := fnExactTokenizeUptoRow, standIns := [], harness := (true, "c1281e0fb7833635f1c1ff465f6321a7a2f79d7e547aa911e3e07612114c4272"), looks := false }, kinds := [], alts := [], laidByText := true, laidKinds := [.data, .pinned], laidTests := true, laidLooks := .later }
def FnExactTokenizeUptoCardSaid : Prop := Claim7.holds Tryd.pinned (.plain (OpenSpec.upto fnExactTokenizeSpec)) fnExactTokenizeUptoCard
end Rows
end Go.Proofs.YtcjaknojeaoffaaDoor
