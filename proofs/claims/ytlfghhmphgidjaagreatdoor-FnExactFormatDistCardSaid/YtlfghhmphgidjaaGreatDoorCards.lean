/-
  DERIVED. GIVEN WITH THE SEED: THE CARDS: each row of YtlfghhmphgidjaaGreatDoorRows.lean that lists a variable, with what it lists TIED to the program's text (the seventh form; the later family's looks); each row that meets fmt, with fmt's text TOLD by the authors' own Lean function (tested against real Go, not proved from fmt's source: count such statements apart). THE CARD IS WHAT COUNTS. Prove the row's statement (the work); the ties are given (YtlfghhmphgidjaaGreatDoorTie.lean); close each card by the builder's one call (the guide's Derived/Test/ToyasCard.lean, 'card_holds'). Laid BY PROGRAM, IN A SANDBOX (cutbox-door.mjs). By AI agents, Wed Nov 11 2026. No macro, syntax, notation, axiom, sorry.
-/
import Derived.Test.YtlfghhmphgidjaaGreatDoorRows
import GoSem.ClaimSeven
namespace Go.Proofs.YtlfghhmphgidjaaGreatDoor
namespace Rows

/-- THE TIED CARD OF 'laws.FnExactMassOf'. -/
def fnExactMassOfCard : Claim7 := { stood := { row := fnExactMassOfRow, standIns := [], harness := (true, "1fb3e295b0ff596d383aff47dac84e468f01ce0ed9190817e29d5e1131650c17"), looks := false }, kinds := [], alts := [], laidByText := true, laidKinds := [.data, .data, .data, .data], laidTests := true, laidLooks := .later }
def FnExactMassOfCardSaid : Prop := Claim7.holds Tryz.pinned (.plain (OpenSpec.ofChange fnExactMassOfSpec)) fnExactMassOfCard

/-- THE TIED CARD OF 'laws.FnExactProbabilityAt'. -/
def fnExactProbabilityAtCard : Claim7 := { stood := { row := fnExactProbabilityAtRow, standIns := [], harness := (true, "1fb3e295b0ff596d383aff47dac84e468f01ce0ed9190817e29d5e1131650c17"), looks := false }, kinds := [], alts := [], laidByText := true, laidKinds := [.data, .data, .data, .data], laidTests := true, laidLooks := .later }
def FnExactProbabilityAtCardSaid : Prop := Claim7.holds Tryz.pinned (.plain (OpenSpec.ofChange fnExactProbabilityAtSpec)) fnExactProbabilityAtCard

/-- THE TIED CARD OF 'laws.FnExactFromWeights'. -/
def fnExactFromWeightsCard : Claim7 := { stood := { row := fnExactFromWeightsRow, standIns := [], harness := (true, "1fb3e295b0ff596d383aff47dac84e468f01ce0ed9190817e29d5e1131650c17"), looks := false }, kinds := [], alts := [], laidByText := true, laidKinds := [.data, .data, .data], laidTests := true, laidLooks := .later }
def FnExactFromWeightsCardSaid : Prop := Claim7.holds Tryz.pinned (.plain (OpenSpec.ofChange fnExactFromWeightsSpec)) fnExactFromWeightsCard

/-- THE TIED CARD OF 'laws.FnExactNormalize'. -/
def fnExactNormalizeCard : Claim7 := { stood := { row := fnExactNormalizeRow, standIns := [], harness := (true, "1fb3e295b0ff596d383aff47dac84e468f01ce0ed9190817e29d5e1131650c17"), looks := false }, kinds := [], alts := [], laidByText := true, laidKinds := [.data, .data, .data, .data], laidTests := true, laidLooks := .later }
def FnExactNormalizeCardSaid : Prop := Claim7.holds Tryz.pinned (.plain (OpenSpec.ofChange fnExactNormalizeSpec)) fnExactNormalizeCard

/-- THE TIED CARD OF 'laws.FnExactMixture'. -/
def fnExactMixtureCard : Claim7 := { stood := { row := fnExactMixtureRow, standIns := [], harness := (true, "1fb3e295b0ff596d383aff47dac84e468f01ce0ed9190817e29d5e1131650c17"), looks := false }, kinds := [], alts := [], laidByText := true, laidKinds := [.data, .data, .data, .data], laidTests := true, laidLooks := .later }
def FnExactMixtureCardSaid : Prop := Claim7.holds Tryz.pinned (.plain (OpenSpec.ofChange fnExactMixtureSpec)) fnExactMixtureCard

/-- THE TIED CARD OF 'laws.FnExactPushForward'. -/
def fnExactPushForwardCard : Claim7 := { stood := { row := fnExactPushForwardRow, standIns := [], harness := (true, "1fb3e295b0ff596d383aff47dac84e468f01ce0ed9190817e29d5e1131650c17"), looks := false }, kinds := [], alts := [], laidByText := true, laidKinds := [.data, .data, .data, .data], laidTests := true, laidLooks := .later }
def FnExactPushForwardCardSaid : Prop := Claim7.holds Tryz.pinned (.plain (OpenSpec.ofChange fnExactPushForwardSpec)) fnExactPushForwardCard

/-- THE TIED CARD OF 'laws.FnExactConvolve'. -/
def fnExactConvolveCard : Claim7 := { stood := { row := fnExactConvolveRow, standIns := [], harness := (true, "1fb3e295b0ff596d383aff47dac84e468f01ce0ed9190817e29d5e1131650c17"), looks := false }, kinds := [], alts := [], laidByText := true, laidKinds := [.data, .data, .data, .data], laidTests := true, laidLooks := .later }
def FnExactConvolveCardSaid : Prop := Claim7.holds Tryz.pinned (.plain (OpenSpec.ofChange fnExactConvolveSpec)) fnExactConvolveCard

/-- THE TIED CARD OF 'laws.FnExactExpectation'. -/
def fnExactExpectationCard : Claim7 := { stood := { row := fnExactExpectationRow, standIns := [], harness := (true, "1fb3e295b0ff596d383aff47dac84e468f01ce0ed9190817e29d5e1131650c17"), looks := false }, kinds := [], alts := [], laidByText := true, laidKinds := [.data, .data, .data, .data], laidTests := true, laidLooks := .later }
def FnExactExpectationCardSaid : Prop := Claim7.holds Tryz.pinned (.plain (OpenSpec.ofChange fnExactExpectationSpec)) fnExactExpectationCard

/-- THE TIED CARD OF 'laws.FnExactVariance'. -/
def fnExactVarianceCard : Claim7 := { stood := { row := fnExactVarianceRow, standIns := [], harness := (true, "1fb3e295b0ff596d383aff47dac84e468f01ce0ed9190817e29d5e1131650c17"), looks := false }, kinds := [], alts := [], laidByText := true, laidKinds := [.data, .data, .data, .data], laidTests := true, laidLooks := .later }
def FnExactVarianceCardSaid : Prop := Claim7.holds Tryz.pinned (.plain (OpenSpec.ofChange fnExactVarianceSpec)) fnExactVarianceCard

/-- THE TIED CARD OF 'laws.FnExactTotalVariation'. -/
def fnExactTotalVariationCard : Claim7 := { stood := { row := fnExactTotalVariationRow, standIns := [], harness := (true, "1fb3e295b0ff596d383aff47dac84e468f01ce0ed9190817e29d5e1131650c17"), looks := false }, kinds := [], alts := [], laidByText := true, laidKinds := [.data, .data, .data, .data], laidTests := true, laidLooks := .later }
def FnExactTotalVariationCardSaid : Prop := Claim7.holds Tryz.pinned (.plain (OpenSpec.ofChange fnExactTotalVariationSpec)) fnExactTotalVariationCard

/-- THE TIED CARD OF 'laws.FnExactFormatDist'. -/
def fnExactFormatDistCard : Claim7 := { stood := { row := fnExactFormatDistRow, standIns := [], harness := (true, "1fb3e295b0ff596d383aff47dac84e468f01ce0ed9190817e29d5e1131650c17"), looks := false }, kinds := [], alts := [], laidByText := true, laidKinds := [.data, .data, .data, .data], laidTests := true, laidLooks := .later }
def FnExactFormatDistCardSaid : Prop := Claim7.holds Tryz.pinned (.plain (OpenSpec.ofChange fnExactFormatDistSpec)) fnExactFormatDistCard

/-- THE TIED CARD OF 'laws.FnDistributions'. -/
def fnDistributionsCard : Claim7 := { stood := { row := fnDistributionsRow, standIns := [], harness := (true, "1fb3e295b0ff596d383aff47dac84e468f01ce0ed9190817e29d5e1131650c17"), looks := false }, kinds := [], alts := [], laidByText := true, laidKinds := [.data, .data, .data, .data], laidTests := true, laidLooks := .later }
def FnDistributionsCardSaid : Prop := Claim7.holds Tryz.pinned (.plain (OpenSpec.ofChange fnDistributionsSpec)) fnDistributionsCard

/-- THE TIED CARD OF 'laws.FnMoments'. -/
def fnMomentsCard : Claim7 := { stood := { row := fnMomentsRow, standIns := [], harness := (true, "1fb3e295b0ff596d383aff47dac84e468f01ce0ed9190817e29d5e1131650c17"), looks := false }, kinds := [], alts := [], laidByText := true, laidKinds := [.data, .data, .data, .data], laidTests := true, laidLooks := .later }
def FnMomentsCardSaid : Prop := Claim7.holds Tryz.pinned (.plain (OpenSpec.ofChange fnMomentsSpec)) fnMomentsCard

/-- THE SECOND FORM's CARD OF 'laws.FnExactMassOf'. -/
def fnExactMassOfUptoCard : Claim7 := { stood := { row := fnExactMassOfUptoRow, standIns := [], harness := (true, "1fb3e295b0ff596d383aff47dac84e468f01ce0ed9190817e29d5e1131650c17"), looks := false }, kinds := [], alts := [], laidByText := true, laidKinds := [.data, .data, .data, .data], laidTests := true, laidLooks := .later }
def FnExactMassOfUptoCardSaid : Prop := Claim7.holds Tryz.pinned (.plain (OpenSpec.upto fnExactMassOfSpec)) fnExactMassOfUptoCard

/-- THE SECOND FORM's CARD OF 'laws.FnExactProbabilityAt'. -/
def fnExactProbabilityAtUptoCard : Claim7 := { stood := { row := fnExactProbabilityAtUptoRow, standIns := [], harness := (true, "1fb3e295b0ff596d383aff47dac84e468f01ce0ed9190817e29d5e1131650c17"), looks := false }, kinds := [], alts := [], laidByText := true, laidKinds := [.data, .data, .data, .data], laidTests := true, laidLooks := .later }
def FnExactProbabilityAtUptoCardSaid : Prop := Claim7.holds Tryz.pinned (.plain (OpenSpec.upto fnExactProbabilityAtSpec)) fnExactProbabilityAtUptoCard

/-- THE SECOND FORM's CARD OF 'laws.FnExactFromWeights'. -/
def fnExactFromWeightsUptoCard : Claim7 := { stood := { row := fnExactFromWeightsUptoRow, standIns := [], harness := (true, "1fb3e295b0ff596d383aff47dac84e468f01ce0ed9190817e29d5e1131650c17"), looks := false }, kinds := [], alts := [], laidByText := true, laidKinds := [.data, .data, .data], laidTests := true, laidLooks := .later }
def FnExactFromWeightsUptoCardSaid : Prop := Claim7.holds Tryz.pinned (.plain (OpenSpec.upto fnExactFromWeightsSpec)) fnExactFromWeightsUptoCard

/-- THE SECOND FORM's CARD OF 'laws.FnExactNormalize'. -/
def fnExactNormalizeUptoCard : Claim7 := { stood := { row := fnExactNormalizeUptoRow, standIns := [], harness := (true, "1fb3e295b0ff596d383aff47dac84e468f01ce0ed9190817e29d5e1131650c17"), looks := false }, kinds := [], alts := [], laidByText := true, laidKinds := [.data, .data, .data, .data], laidTests := true, laidLooks := .later }
def FnExactNormalizeUptoCardSaid : Prop := Claim7.holds Tryz.pinned (.plain (OpenSpec.upto fnExactNormalizeSpec)) fnExactNormalizeUptoCard

/-- THE SECOND FORM's CARD OF 'laws.FnExactMixture'. -/
def fnExactMixtureUptoCard : Claim7 := { stood := { row := fnExactMixtureUptoRow, standIns := [], harness := (true, "1fb3e295b0ff596d383aff47dac84e468f01ce0ed9190817e29d5e1131650c17"), looks := false }, kinds := [], alts := [], laidByText := true, laidKinds := [.data, .data, .data, .data], laidTests := true, laidLooks := .later }
def FnExactMixtureUptoCardSaid : Prop := Claim7.holds Tryz.pinned (.plain (OpenSpec.upto fnExactMixtureSpec)) fnExactMixtureUptoCard

/-- THE SECOND FORM's CARD OF 'laws.FnExactPushForward'. -/
def fnExactPushForwardUptoCard : Claim7 := { stood := { row := fnExactPushForwardUptoRow, standIns := [], harness := (true, "1fb3e295b0ff596d383aff47dac84e468f01ce0ed9190817e29d5e1131650c17"), looks := false }, kinds := [], alts := [], laidByText := true, laidKinds := [.data, .data, .data, .data], laidTests := true, laidLooks := .later }
def FnExactPushForwardUptoCardSaid : Prop := Claim7.holds Tryz.pinned (.plain (OpenSpec.upto fnExactPushForwardSpec)) fnExactPushForwardUptoCard

/-- THE SECOND FORM's CARD OF 'laws.FnExactConvolve'. -/
def fnExactConvolveUptoCard : Claim7 := { stood := { row := fnExactConvolveUptoRow, standIns := [], harness := (true, "1fb3e295b0ff596d383aff47dac84e468f01ce0ed9190817e29d5e1131650c17"), looks := false }, kinds := [], alts := [], laidByText := true, laidKinds := [.data, .data, .data, .data], laidTests := true, laidLooks := .later }
def FnExactConvolveUptoCardSaid : Prop := Claim7.holds Tryz.pinned (.plain (OpenSpec.upto fnExactConvolveSpec)) fnExactConvolveUptoCard

/-- THE SECOND FORM's CARD OF 'laws.FnExactExpectation'. -/
def fnExactExpectationUptoCard : Claim7 := { stood := { row := fnExactExpectationUptoRow, standIns := [], harness := (true, "1fb3e295b0ff596d383aff47dac84e468f01ce0ed9190817e29d5e1131650c17"), looks := false }, kinds := [], alts := [], laidByText := true, laidKinds := [.data, .data, .data, .data], laidTests := true, laidLooks := .later }
def FnExactExpectationUptoCardSaid : Prop := Claim7.holds Tryz.pinned (.plain (OpenSpec.upto fnExactExpectationSpec)) fnExactExpectationUptoCard

/-- THE SECOND FORM's CARD OF 'laws.FnExactVariance'. -/
def fnExactVarianceUptoCard : Claim7 := { stood := { row := fnExactVarianceUptoRow, standIns := [], harness := (true, "1fb3e295b0ff596d383aff47dac84e468f01ce0ed9190817e29d5e1131650c17"), looks := false }, kinds := [], alts := [], laidByText := true, laidKinds := [.data, .data, .data, .data], laidTests := true, laidLooks := .later }
def FnExactVarianceUptoCardSaid : Prop := Claim7.holds Tryz.pinned (.plain (OpenSpec.upto fnExactVarianceSpec)) fnExactVarianceUptoCard

/-- THE SECOND FORM's CARD OF 'laws.FnExactTotalVariation'. -/
def fnExactTotalVariationUptoCard : Claim7 := { stood := { row := fnExactTotalVariationUptoRow, standIns := [], harness := (true, "1fb3e295b0ff596d383aff47dac84e468f01ce0ed9190817e29d5e1131650c17"), looks := false }, kinds := [], alts := [], laidByText := true, laidKinds := [.data, .data, .data, .data], laidTests := true, laidLooks := .later }
def FnExactTotalVariationUptoCardSaid : Prop := Claim7.holds Tryz.pinned (.plain (OpenSpec.upto fnExactTotalVariationSpec)) fnExactTotalVariationUptoCard

/-- THE SECOND FORM's CARD OF 'laws.FnExactFormatDist'. -/
def fnExactFormatDistUptoCard : Claim7 := { stood := { row := fnExactFormatDistUptoRow, standIns := [], harness := (true, "1fb3e295b0ff596d383aff47dac84e468f01ce0ed9190817e29d5e1131650c17"), looks := false }, kinds := [], alts := [], laidByText := true, laidKinds := [.data, .data, .data, .data], laidTests := true, laidLooks := .later }
def FnExactFormatDistUptoCardSaid : Prop := Claim7.holds Tryz.pinned (.plain (OpenSpec.upto fnExactFormatDistSpec)) fnExactFormatDistUptoCard

/-- THE SECOND FORM's CARD OF 'laws.FnDistributions'. -/
def fnDistributionsUptoCard : Claim7 := { stood := { row := fnDistributionsUptoRow, standIns := [], harness := (true, "1fb3e295b0ff596d383aff47dac84e468f01ce0ed9190817e29d5e1131650c17"), looks := false }, kinds := [], alts := [], laidByText := true, laidKinds := [.data, .data, .data, .data], laidTests := true, laidLooks := .later }
def FnDistributionsUptoCardSaid : Prop := Claim7.holds Tryz.pinned (.plain (OpenSpec.upto fnDistributionsSpec)) fnDistributionsUptoCard

/-- THE SECOND FORM's CARD OF 'laws.FnMoments'. -/
def fnMomentsUptoCard : Claim7 := { stood := { row := fnMomentsUptoRow, standIns := [], harness := (true, "1fb3e295b0ff596d383aff47dac84e468f01ce0ed9190817e29d5e1131650c17"), looks := false }, kinds := [], alts := [], laidByText := true, laidKinds := [.data, .data, .data, .data], laidTests := true, laidLooks := .later }
def FnMomentsUptoCardSaid : Prop := Claim7.holds Tryz.pinned (.plain (OpenSpec.upto fnMomentsSpec)) fnMomentsUptoCard
end Rows
end Go.Proofs.YtlfghhmphgidjaaGreatDoor
