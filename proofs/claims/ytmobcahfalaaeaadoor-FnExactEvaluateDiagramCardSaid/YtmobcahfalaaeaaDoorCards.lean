/-
  DERIVED. GIVEN WITH THE SEED: THE CARDS: each row of YtmobcahfalaaeaaDoorRows.lean that lists a variable, with what it lists TIED to the program's text (the seventh form; the later family's looks); each row that meets fmt, with fmt's text TOLD by the authors' own Lean function (tested against real Go, not proved from fmt's source: count such statements apart). THE CARD IS WHAT COUNTS. Prove the row's statement (the work); the ties are given (YtmobcahfalaaeaaDoorTie.lean); close each card by the builder's one call (the guide's Derived/Test/ToyasCard.lean, 'card_holds'). Laid BY PROGRAM, IN A SANDBOX (cutbox-door.mjs). By AI agents, Wed Nov 11 2026. No macro, syntax, notation, axiom, sorry.
-/
import Derived.Test.YtmobcahfalaaeaaDoorRows
import GoSem.ClaimSeven
namespace Go.Proofs.YtmobcahfalaaeaaDoor
namespace Rows

/-- THE TIED CARD OF 'laws.FnExactDiagramOf'. -/
def fnExactDiagramOfCard : Claim7 := { stood := { row := fnExactDiagramOfRow, standIns := [], harness := (true, "7dfedc9aea7d923044b425dbc0ecbd48e1264364e8ba5eb639d34f844d35f2f2"), looks := false }, kinds := [], alts := [], laidByText := true, laidKinds := [.data, .data, .data, .pinned], laidTests := true, laidLooks := .later }
def FnExactDiagramOfCardSaid : Prop := Claim7.holds Tryd.pinned (.plain (OpenSpec.ofChange fnExactDiagramOfSpec)) fnExactDiagramOfCard

/-- THE TIED CARD OF 'laws.FnExactEvaluateDiagram'. -/
def fnExactEvaluateDiagramCard : Claim7 := { stood := { row := fnExactEvaluateDiagramRow, standIns := [], harness := (true, "7dfedc9aea7d923044b425dbc0ecbd48e1264364e8ba5eb639d34f844d35f2f2"), looks := false }, kinds := [], alts := [], laidByText := true, laidKinds := [.data, .pinned], laidTests := true, laidLooks := .later }
def FnExactEvaluateDiagramCardSaid : Prop := Claim7.holds Tryd.pinned (.plain (OpenSpec.ofChange fnExactEvaluateDiagramSpec)) fnExactEvaluateDiagramCard

/-- THE SECOND FORM's CARD OF 'laws.FnExactDiagramOf'. -/
def fnExactDiagramOfUptoCard : Claim7 := { stood := { row := fnExactDiagramOfUptoRow, standIns := [], harness := (true, "7dfedc9aea7d923044b425dbc0ecbd48e1264364e8ba5eb639d34f844d35f2f2"), looks := false }, kinds := [], alts := [], laidByText := true, laidKinds := [.data, .data, .data, .pinned], laidTests := true, laidLooks := .later }
def FnExactDiagramOfUptoCardSaid : Prop := Claim7.holds Tryd.pinned (.plain (OpenSpec.upto fnExactDiagramOfSpec)) fnExactDiagramOfUptoCard

/-- THE SECOND FORM's CARD OF 'laws.FnExactEvaluateDiagram'. -/
def fnExactEvaluateDiagramUptoCard : Claim7 := { stood := { row := fnExactEvaluateDiagramUptoRow, standIns := [], harness := (true, "7dfedc9aea7d923044b425dbc0ecbd48e1264364e8ba5eb639d34f844d35f2f2"), looks := false }, kinds := [], alts := [], laidByText := true, laidKinds := [.data, .pinned], laidTests := true, laidLooks := .later }
def FnExactEvaluateDiagramUptoCardSaid : Prop := Claim7.holds Tryd.pinned (.plain (OpenSpec.upto fnExactEvaluateDiagramSpec)) fnExactEvaluateDiagramUptoCard
end Rows
end Go.Proofs.YtmobcahfalaaeaaDoor
