/-
  DERIVED. GIVEN WITH THE SEED: THE CARDS: each row of YtlfghhmphgidjaaDoorRows.lean that lists a variable, with what it lists TIED to the program's text (the seventh form; the later family's looks); each row that meets fmt, with fmt's text TOLD by the authors' own Lean function (tested against real Go, not proved from fmt's source: count such statements apart). THE CARD IS WHAT COUNTS. Prove the row's statement (the work); the ties are given (YtlfghhmphgidjaaDoorTie.lean); close each card by the builder's one call (the guide's Derived/Test/ToyasCard.lean, 'card_holds'). Laid BY PROGRAM, IN A SANDBOX (cutbox-door.mjs). By AI agents, Wed Nov 11 2026. No macro, syntax, notation, axiom, sorry.
-/
import Derived.Test.YtlfghhmphgidjaaDoorRows
import GoSem.ClaimSeven
namespace Go.Proofs.YtlfghhmphgidjaaDoor
namespace Rows

/-- THE TIED CARD OF 'laws.FnExactIsValidDist'. -/
def fnExactIsValidDistCard : Claim7 := { stood := { row := fnExactIsValidDistRow, standIns := [], harness := (true, "2364630cb6848f280135fe303857fcf2a5dcfdeced0d3a0269bd5e623c766cff"), looks := false }, kinds := [], alts := [], laidByText := true, laidKinds := [.data, .data], laidTests := true, laidLooks := .later }
def FnExactIsValidDistCardSaid : Prop := Claim7.holds Tryd.pinned (.plain (OpenSpec.ofChange fnExactIsValidDistSpec)) fnExactIsValidDistCard

/-- THE SECOND FORM's CARD OF 'laws.FnExactIsValidDist'. -/
def fnExactIsValidDistUptoCard : Claim7 := { stood := { row := fnExactIsValidDistUptoRow, standIns := [], harness := (true, "2364630cb6848f280135fe303857fcf2a5dcfdeced0d3a0269bd5e623c766cff"), looks := false }, kinds := [], alts := [], laidByText := true, laidKinds := [.data, .data], laidTests := true, laidLooks := .later }
def FnExactIsValidDistUptoCardSaid : Prop := Claim7.holds Tryd.pinned (.plain (OpenSpec.upto fnExactIsValidDistSpec)) fnExactIsValidDistUptoCard
end Rows
end Go.Proofs.YtlfghhmphgidjaaDoor
