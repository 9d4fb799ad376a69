/-
  DERIVED. GIVEN WITH THE SEED: THE CARDS: each row of YtfeejdbkolpjoaaDoorRows.lean that lists a variable, with what it lists TIED to the program's text (the seventh form; the later family's looks); each row that meets fmt, with fmt's text TOLD by the authors' own Lean function (tested against real Go, not proved from fmt's source: count such statements apart). THE CARD IS WHAT COUNTS. Prove the row's statement (the work); the ties are given (YtfeejdbkolpjoaaDoorTie.lean); close each card by the builder's one call (the guide's Derived/Test/ToyasCard.lean, 'card_holds'). Laid BY PROGRAM, IN A SANDBOX (cutbox-door.mjs). By AI agents, Wed Nov 11 2026. No macro, syntax, notation, axiom, sorry.
-/
import Derived.Test.YtfeejdbkolpjoaaDoorRows
import GoSem.ClaimSeven
namespace Go.Proofs.YtfeejdbkolpjoaaDoor
namespace Rows

/-- THE TIED CARD OF 'laws.FnExactFormatDNF'. -/
def fnExactFormatDNFCard : Claim7 := { stood := { row := fnExactFormatDNFRow, standIns := [], harness := (true, "f92af5b897c3f9a26b6c73df1b7529e1669c7091828d759d1cef9aca35cd5779"), looks := false }, kinds := [], alts := [], laidByText := true, laidKinds := [.data, .data, .data, .pinned], laidTests := true, laidLooks := .later }
def FnExactFormatDNFCardSaid : Prop := Claim7.holds Tryd.pinned (.plain (OpenSpec.ofChange fnExactFormatDNFSpec)) fnExactFormatDNFCard

/-- THE SECOND FORM's CARD OF 'laws.FnExactFormatDNF'. -/
def fnExactFormatDNFUptoCard : Claim7 := { stood := { row := fnExactFormatDNFUptoRow, standIns := [], harness := (true, "f92af5b897c3f9a26b6c73df1b7529e1669c7091828d759d1cef9aca35cd5779"), looks := false }, kinds := [], alts := [], laidByText := true, laidKinds := [.data, .data, .data, .pinned], laidTests := true, laidLooks := .later }
def FnExactFormatDNFUptoCardSaid : Prop := Claim7.holds Tryd.pinned (.plain (OpenSpec.upto fnExactFormatDNFSpec)) fnExactFormatDNFUptoCard
end Rows
end Go.Proofs.YtfeejdbkolpjoaaDoor
