/-
  NARROWER THAN 'FOR EVERY INPUT', by the rows' own cells (each row's printed sentence says how): FnExactMassOf: laid · FnExactProbabilityAt: laid · FnExactFromWeights: laid · FnExactNormalize: laid · FnExactMixture: laid · FnExactPushForward: laid · FnExactConvolve: laid · FnExactExpectation: laid · FnExactVariance: laid · FnExactTotalVariation: laid · FnExactFormatDist: laid · FnDistributions: laid · FnMoments: laid.
  DERIVED. THE GIVEN ROWS OF THIS SEAT. 13 by the template 'for every input the law returns true; each argument reads behind the call as it read before'; 0 by the template 'total and deterministic' (their statements: YtlfghhmphgidjaaGreatDoorTotals.lean).
  GIVEN WITH THE SEED: the statements are not yours to turn. If you find one false, say at which input.
  Laid BY PROGRAM, IN A SANDBOX (cutbox-rows.mjs): the forced cells as the released guide's own fill.sh prints them over the translation b8e96252d384efe2… (all of the seat's roots in one cut). By AI agents, Wed Nov 11 2026. No macro, syntax, notation, axiom, sorry.
-/
import Derived.Test.YtlfghhmphgidjaaGreatDoorChecked
import GoSem.Claim
import GoSem.ClaimJoined
import GoSem.ClaimMapViews
import Derived.JoinedTies
import Derived.KernelRfl
namespace Go.Proofs.YtlfghhmphgidjaaGreatDoor
/- THE CELL 'sum', in the pinned program and in every row, IS THE sha256 OF THE DUMP (.gsa) THAT YtlfghhmphgidjaaGreatDoorProg.lean LOADS. Nothing in Lean hashes anything: it is a label: what it is worth is what the hold of that sum in a sandbox is worth. -/
noncomputable def Tryz.pinned : Pinned := { name := "ytlfghhmphgidjaagreatdoor", sum := "b8e96252d384efe25bd076b5e958c23e5e49290de5e267f176e16fc7588adf5a", checked := Tryz.checked }
namespace Rows
def none {H : Type} : Left H := { results := [], args := [] }

/- WHAT THE LISTED PACKAGE-LEVEL VARIABLES READ AS WHEN THE CALL BEGINS. Each datum BY PROGRAM (the guide's laid-datum.mjs) off the statement by which the dump's own 'gosem.cut.vars' lays the variable. In a bare row this is a premise. The card (YtlfghhmphgidjaaGreatDoorCards.lean) ties it to the program's text. -/
def laid_math_bits_deBruijn32tab {H : Type} : DataW H := .agg [.lit (.int .u8 0), .lit (.int .u8 1), .lit (.int .u8 28), .lit (.int .u8 2), .lit (.int .u8 29), .lit (.int .u8 14), .lit (.int .u8 24), .lit (.int .u8 3), .lit (.int .u8 30), .lit (.int .u8 22), .lit (.int .u8 20), .lit (.int .u8 15), .lit (.int .u8 25), .lit (.int .u8 17), .lit (.int .u8 4), .lit (.int .u8 8), .lit (.int .u8 31), .lit (.int .u8 27), .lit (.int .u8 13), .lit (.int .u8 23), .lit (.int .u8 21), .lit (.int .u8 19), .lit (.int .u8 16), .lit (.int .u8 7), .lit (.int .u8 26), .lit (.int .u8 12), .lit (.int .u8 18), .lit (.int .u8 6), .lit (.int .u8 11), .lit (.int .u8 5), .lit (.int .u8 10), .lit (.int .u8 9)]
def laid_math_bits_deBruijn64tab {H : Type} : DataW H := .agg [.lit (.int .u8 0), .lit (.int .u8 1), .lit (.int .u8 56), .lit (.int .u8 2), .lit (.int .u8 57), .lit (.int .u8 49), .lit (.int .u8 28), .lit (.int .u8 3), .lit (.int .u8 61), .lit (.int .u8 58), .lit (.int .u8 42), .lit (.int .u8 50), .lit (.int .u8 38), .lit (.int .u8 29), .lit (.int .u8 17), .lit (.int .u8 4), .lit (.int .u8 62), .lit (.int .u8 47), .lit (.int .u8 59), .lit (.int .u8 36), .lit (.int .u8 45), .lit (.int .u8 43), .lit (.int .u8 51), .lit (.int .u8 22), .lit (.int .u8 53), .lit (.int .u8 39), .lit (.int .u8 33), .lit (.int .u8 30), .lit (.int .u8 24), .lit (.int .u8 18), .lit (.int .u8 12), .lit (.int .u8 5), .lit (.int .u8 63), .lit (.int .u8 55), .lit (.int .u8 48), .lit (.int .u8 27), .lit (.int .u8 60), .lit (.int .u8 41), .lit (.int .u8 37), .lit (.int .u8 16), .lit (.int .u8 46), .lit (.int .u8 35), .lit (.int .u8 44), .lit (.int .u8 21), .lit (.int .u8 52), .lit (.int .u8 32), .lit (.int .u8 23), .lit (.int .u8 11), .lit (.int .u8 54), .lit (.int .u8 26), .lit (.int .u8 40), .lit (.int .u8 15), .lit (.int .u8 34), .lit (.int .u8 20), .lit (.int .u8 31), .lit (.int .u8 10), .lit (.int .u8 25), .lit (.int .u8 14), .lit (.int .u8 19), .lit (.int .u8 9), .lit (.int .u8 13), .lit (.int .u8 8), .lit (.int .u8 7), .lit (.int .u8 6)]
def laid_internal_strconv_uint64pow10 {H : Type} : DataW H := .agg [.lit (.int .u64 1), .lit (.int .u64 10), .lit (.int .u64 100), .lit (.int .u64 1000), .lit (.int .u64 10000), .lit (.int .u64 100000), .lit (.int .u64 1000000), .lit (.int .u64 10000000), .lit (.int .u64 100000000), .lit (.int .u64 1000000000), .lit (.int .u64 10000000000), .lit (.int .u64 100000000000), .lit (.int .u64 1000000000000), .lit (.int .u64 10000000000000), .lit (.int .u64 100000000000000), .lit (.int .u64 1000000000000000), .lit (.int .u64 10000000000000000), .lit (.int .u64 100000000000000000), .lit (.int .u64 1000000000000000000), .lit (.int .u64 10000000000000000000)]
def laid_loop_example_g00893_impl_unitBlock {H : Type} : DataW H := .agg [.lit (.int .u64 1), .lit (.int .u64 0), .lit (.int .u64 0), .lit (.int .u64 0), .lit (.int .u64 0), .lit (.int .u64 0), .lit (.int .u64 0)]

/-- 'laws.FnExactMassOf': WHATEVER THE INPUT: true; the input reads as it did. -/
def fnExactMassOfSpec : ChangeSpec := { name := "fnExactMassOf", vars := ["loop.example/g00893/impl.unitBlock"], fn := fun _ => fun
  | [d, g1] => { results := [.lit (.bool true)], args := [d], vars := [g1] }
  | _ => none }
def fnExactMassOfRow : OpenClaim := { program := "ytlfghhmphgidjaagreatdoor", sum := "b8e96252d384efe25bd076b5e958c23e5e49290de5e267f176e16fc7588adf5a", func := "loop.example/g00893/laws.FnExactMassOf", spec := "fnExactMassOf", inPlace := ["math/bits.Add64", "math/bits.Sub64", "internal/abi.NoEscape", "internal/bytealg.MakeNoZero"], unfollowed := true, recurses := true, named := ["loop.example/g00893/impl.unitBlock", "math/bits.divideError", "math/bits.overflowError", "math/bits.deBruijn64tab", "internal/strconv.uint64pow10", "math/bits.deBruijn32tab"], plainKeys := false, apart := false, laid := [("math/bits.deBruijn32tab", laid_math_bits_deBruijn32tab), ("math/bits.deBruijn64tab", laid_math_bits_deBruijn64tab), ("internal/strconv.uint64pow10", laid_internal_strconv_uint64pow10), ("loop.example/g00893/impl.unitBlock", laid_loop_example_g00893_impl_unitBlock)] }
def FnExactMassOfSaid : Prop := fnExactMassOfRow.holds Tryz.pinned (OpenSpec.ofChange fnExactMassOfSpec)

/-- ITS FALSE NEIGHBOUR: 'it returns false'. Refute it at one input. -/
def fnExactMassOfWrong : ChangeSpec := { name := "fnExactMassOf", vars := ["loop.example/g00893/impl.unitBlock"], fn := fun _ => fun
  | [d, g1] => { results := [.lit (.bool false)], args := [d], vars := [g1] }
  | _ => none }
def FnExactMassOfWrongFalsely : Prop := fnExactMassOfRow.holds Tryz.pinned (OpenSpec.ofChange fnExactMassOfWrong)

/-- 'laws.FnExactProbabilityAt': WHATEVER THE INPUT: true; the input reads as it did. -/
def fnExactProbabilityAtSpec : ChangeSpec := { name := "fnExactProbabilityAt", vars := ["loop.example/g00893/impl.unitBlock"], fn := fun _ => fun
  | [d1, d2, g1] => { results := [.lit (.bool true)], args := [d1, d2], vars := [g1] }
  | _ => none }
def fnExactProbabilityAtRow : OpenClaim := { program := "ytlfghhmphgidjaagreatdoor", sum := "b8e96252d384efe25bd076b5e958c23e5e49290de5e267f176e16fc7588adf5a", func := "loop.example/g00893/laws.FnExactProbabilityAt", spec := "fnExactProbabilityAt", inPlace := ["math/bits.Add64", "math/bits.Sub64", "internal/abi.NoEscape", "internal/bytealg.MakeNoZero"], unfollowed := true, recurses := true, named := ["loop.example/g00893/impl.unitBlock", "math/bits.divideError", "math/bits.overflowError", "math/bits.deBruijn64tab", "internal/strconv.uint64pow10", "math/bits.deBruijn32tab"], plainKeys := false, apart := false, laid := [("math/bits.deBruijn32tab", laid_math_bits_deBruijn32tab), ("math/bits.deBruijn64tab", laid_math_bits_deBruijn64tab), ("internal/strconv.uint64pow10", laid_internal_strconv_uint64pow10), ("loop.example/g00893/impl.unitBlock", laid_loop_example_g00893_impl_unitBlock)] }
def FnExactProbabilityAtSaid : Prop := fnExactProbabilityAtRow.holds Tryz.pinned (OpenSpec.ofChange fnExactProbabilityAtSpec)

/-- ITS FALSE NEIGHBOUR: 'it returns false'. Refute it at one input. -/
def fnExactProbabilityAtWrong : ChangeSpec := { name := "fnExactProbabilityAt", vars := ["loop.example/g00893/impl.unitBlock"], fn := fun _ => fun
  | [d1, d2, g1] => { results := [.lit (.bool false)], args := [d1, d2], vars := [g1] }
  | _ => none }
def FnExactProbabilityAtWrongFalsely : Prop := fnExactProbabilityAtRow.holds Tryz.pinned (OpenSpec.ofChange fnExactProbabilityAtWrong)

/-- 'laws.FnExactFromWeights': WHATEVER THE INPUT: true; the input reads as it did. -/
def fnExactFromWeightsSpec : ChangeSpec := { name := "fnExactFromWeights", fn := fun _ => fun
  | [d1, d2] => { results := [.lit (.bool true)], args := [d1, d2] }
  | _ => none }
def fnExactFromWeightsRow : OpenClaim := { program := "ytlfghhmphgidjaagreatdoor", sum := "b8e96252d384efe25bd076b5e958c23e5e49290de5e267f176e16fc7588adf5a", func := "loop.example/g00893/laws.FnExactFromWeights", spec := "fnExactFromWeights", inPlace := ["math/bits.Add64", "math/bits.Sub64", "internal/abi.NoEscape", "internal/bytealg.MakeNoZero"], unfollowed := true, recurses := true, named := ["math/bits.deBruijn64tab", "math/bits.divideError", "math/bits.overflowError", "internal/strconv.uint64pow10", "math/bits.deBruijn32tab"], plainKeys := false, apart := false, laid := [("math/bits.deBruijn32tab", laid_math_bits_deBruijn32tab), ("math/bits.deBruijn64tab", laid_math_bits_deBruijn64tab), ("internal/strconv.uint64pow10", laid_internal_strconv_uint64pow10)] }
def FnExactFromWeightsSaid : Prop := fnExactFromWeightsRow.holds Tryz.pinned (OpenSpec.ofChange fnExactFromWeightsSpec)

/-- ITS FALSE NEIGHBOUR: 'it returns false'. Refute it at one input. -/
def fnExactFromWeightsWrong : ChangeSpec := { name := "fnExactFromWeights", fn := fun _ => fun
  | [d1, d2] => { results := [.lit (.bool false)], args := [d1, d2] }
  | _ => none }
def FnExactFromWeightsWrongFalsely : Prop := fnExactFromWeightsRow.holds Tryz.pinned (OpenSpec.ofChange fnExactFromWeightsWrong)

/-- 'laws.FnExactNormalize': WHATEVER THE INPUT: true; the input reads as it did. -/
def fnExactNormalizeSpec : ChangeSpec := { name := "fnExactNormalize", vars := ["loop.example/g00893/impl.unitBlock"], fn := fun _ => fun
  | [d, g1] => { results := [.lit (.bool true)], args := [d], vars := [g1] }
  | _ => none }
def fnExactNormalizeRow : OpenClaim := { program := "ytlfghhmphgidjaagreatdoor", sum := "b8e96252d384efe25bd076b5e958c23e5e49290de5e267f176e16fc7588adf5a", func := "loop.example/g00893/laws.FnExactNormalize", spec := "fnExactNormalize", inPlace := ["math/bits.Add64", "math/bits.Sub64", "internal/abi.NoEscape", "internal/bytealg.MakeNoZero"], unfollowed := true, recurses := true, named := ["loop.example/g00893/impl.unitBlock", "math/bits.divideError", "math/bits.overflowError", "math/bits.deBruijn64tab", "internal/strconv.uint64pow10", "math/bits.deBruijn32tab"], plainKeys := false, apart := false, laid := [("math/bits.deBruijn32tab", laid_math_bits_deBruijn32tab), ("math/bits.deBruijn64tab", laid_math_bits_deBruijn64tab), ("internal/strconv.uint64pow10", laid_internal_strconv_uint64pow10), ("loop.example/g00893/impl.unitBlock", laid_loop_example_g00893_impl_unitBlock)] }
def FnExactNormalizeSaid : Prop := fnExactNormalizeRow.holds Tryz.pinned (OpenSpec.ofChange fnExactNormalizeSpec)

/-- ITS FALSE NEIGHBOUR: 'it returns false'. Refute it at one input. -/
def fnExactNormalizeWrong : ChangeSpec := { name := "fnExactNormalize", vars := ["loop.example/g00893/impl.unitBlock"], fn := fun _ => fun
  | [d, g1] => { results := [.lit (.bool false)], args := [d], vars := [g1] }
  | _ => none }
def FnExactNormalizeWrongFalsely : Prop := fnExactNormalizeRow.holds Tryz.pinned (OpenSpec.ofChange fnExactNormalizeWrong)

/-- 'laws.FnExactMixture': WHATEVER THE INPUT: true; the input reads as it did. -/
def fnExactMixtureSpec : ChangeSpec := { name := "fnExactMixture", vars := ["loop.example/g00893/impl.unitBlock"], fn := fun _ => fun
  | [d1, d2, d3, g1] => { results := [.lit (.bool true)], args := [d1, d2, d3], vars := [g1] }
  | _ => none }
def fnExactMixtureRow : OpenClaim := { program := "ytlfghhmphgidjaagreatdoor", sum := "b8e96252d384efe25bd076b5e958c23e5e49290de5e267f176e16fc7588adf5a", func := "loop.example/g00893/laws.FnExactMixture", spec := "fnExactMixture", inPlace := ["math/bits.Add64", "math/bits.Sub64", "internal/abi.NoEscape", "internal/bytealg.MakeNoZero"], unfollowed := true, recurses := true, named := ["loop.example/g00893/impl.unitBlock", "math/bits.divideError", "math/bits.overflowError", "math/bits.deBruijn64tab", "internal/strconv.uint64pow10", "math/bits.deBruijn32tab"], plainKeys := false, apart := false, laid := [("math/bits.deBruijn32tab", laid_math_bits_deBruijn32tab), ("math/bits.deBruijn64tab", laid_math_bits_deBruijn64tab), ("internal/strconv.uint64pow10", laid_internal_strconv_uint64pow10), ("loop.example/g00893/impl.unitBlock", laid_loop_example_g00893_impl_unitBlock)] }
def FnExactMixtureSaid : Prop := fnExactMixtureRow.holds Tryz.pinned (OpenSpec.ofChange fnExactMixtureSpec)

/-- ITS FALSE NEIGHBOUR: 'it returns false'. Refute it at one input. -/
def fnExactMixtureWrong : ChangeSpec := { name := "fnExactMixture", vars := ["loop.example/g00893/impl.unitBlock"], fn := fun _ => fun
  | [d1, d2, d3, g1] => { results := [.lit (.bool false)], args := [d1, d2, d3], vars := [g1] }
  | _ => none }
def FnExactMixtureWrongFalsely : Prop := fnExactMixtureRow.holds Tryz.pinned (OpenSpec.ofChange fnExactMixtureWrong)

/-- 'laws.FnExactPushForward': WHATEVER THE INPUT: true; the input reads as it did. -/
def fnExactPushForwardSpec : ChangeSpec := { name := "fnExactPushForward", vars := ["loop.example/g00893/impl.unitBlock"], fn := fun _ => fun
  | [d1, d2, d3, g1] => { results := [.lit (.bool true)], args := [d1, d2, d3], vars := [g1] }
  | _ => none }
def fnExactPushForwardRow : OpenClaim := { program := "ytlfghhmphgidjaagreatdoor", sum := "b8e96252d384efe25bd076b5e958c23e5e49290de5e267f176e16fc7588adf5a", func := "loop.example/g00893/laws.FnExactPushForward", spec := "fnExactPushForward", inPlace := ["math/bits.Add64", "math/bits.Sub64", "internal/abi.NoEscape", "internal/bytealg.MakeNoZero"], unfollowed := true, recurses := true, named := ["loop.example/g00893/impl.unitBlock", "math/bits.divideError", "math/bits.overflowError", "math/bits.deBruijn64tab", "internal/strconv.uint64pow10", "math/bits.deBruijn32tab"], plainKeys := false, apart := false, laid := [("math/bits.deBruijn32tab", laid_math_bits_deBruijn32tab), ("math/bits.deBruijn64tab", laid_math_bits_deBruijn64tab), ("internal/strconv.uint64pow10", laid_internal_strconv_uint64pow10), ("loop.example/g00893/impl.unitBlock", laid_loop_example_g00893_impl_unitBlock)] }
def FnExactPushForwardSaid : Prop := fnExactPushForwardRow.holds Tryz.pinned (OpenSpec.ofChange fnExactPushForwardSpec)

/-- ITS FALSE NEIGHBOUR: 'it returns false'. Refute it at one input. -/
def fnExactPushForwardWrong : ChangeSpec := { name := "fnExactPushForward", vars := ["loop.example/g00893/impl.unitBlock"], fn := fun _ => fun
  | [d1, d2, d3, g1] => { results := [.lit (.bool false)], args := [d1, d2, d3], vars := [g1] }
  | _ => none }
def FnExactPushForwardWrongFalsely : Prop := fnExactPushForwardRow.holds Tryz.pinned (OpenSpec.ofChange fnExactPushForwardWrong)

/-- 'laws.FnExactConvolve': WHATEVER THE INPUT: true; the input reads as it did. -/
def fnExactConvolveSpec : ChangeSpec := { name := "fnExactConvolve", vars := ["loop.example/g00893/impl.unitBlock"], fn := fun _ => fun
  | [d1, d2, g1] => { results := [.lit (.bool true)], args := [d1, d2], vars := [g1] }
  | _ => none }
def fnExactConvolveRow : OpenClaim := { program := "ytlfghhmphgidjaagreatdoor", sum := "b8e96252d384efe25bd076b5e958c23e5e49290de5e267f176e16fc7588adf5a", func := "loop.example/g00893/laws.FnExactConvolve", spec := "fnExactConvolve", inPlace := ["math/bits.Add64", "math/bits.Sub64", "internal/abi.NoEscape", "internal/bytealg.MakeNoZero"], unfollowed := true, recurses := true, named := ["loop.example/g00893/impl.unitBlock", "math/bits.divideError", "math/bits.overflowError", "math/bits.deBruijn64tab", "internal/strconv.uint64pow10", "math/bits.deBruijn32tab"], plainKeys := false, apart := false, laid := [("math/bits.deBruijn32tab", laid_math_bits_deBruijn32tab), ("math/bits.deBruijn64tab", laid_math_bits_deBruijn64tab), ("internal/strconv.uint64pow10", laid_internal_strconv_uint64pow10), ("loop.example/g00893/impl.unitBlock", laid_loop_example_g00893_impl_unitBlock)] }
def FnExactConvolveSaid : Prop := fnExactConvolveRow.holds Tryz.pinned (OpenSpec.ofChange fnExactConvolveSpec)

/-- ITS FALSE NEIGHBOUR: 'it returns false'. Refute it at one input. -/
def fnExactConvolveWrong : ChangeSpec := { name := "fnExactConvolve", vars := ["loop.example/g00893/impl.unitBlock"], fn := fun _ => fun
  | [d1, d2, g1] => { results := [.lit (.bool false)], args := [d1, d2], vars := [g1] }
  | _ => none }
def FnExactConvolveWrongFalsely : Prop := fnExactConvolveRow.holds Tryz.pinned (OpenSpec.ofChange fnExactConvolveWrong)

/-- 'laws.FnExactExpectation': WHATEVER THE INPUT: true; the input reads as it did. -/
def fnExactExpectationSpec : ChangeSpec := { name := "fnExactExpectation", vars := ["loop.example/g00893/impl.unitBlock"], fn := fun _ => fun
  | [d, g1] => { results := [.lit (.bool true)], args := [d], vars := [g1] }
  | _ => none }
def fnExactExpectationRow : OpenClaim := { program := "ytlfghhmphgidjaagreatdoor", sum := "b8e96252d384efe25bd076b5e958c23e5e49290de5e267f176e16fc7588adf5a", func := "loop.example/g00893/laws.FnExactExpectation", spec := "fnExactExpectation", inPlace := ["math/bits.Add64", "math/bits.Sub64", "internal/abi.NoEscape", "internal/bytealg.MakeNoZero"], unfollowed := true, recurses := true, named := ["loop.example/g00893/impl.unitBlock", "math/bits.divideError", "math/bits.overflowError", "math/bits.deBruijn64tab", "internal/strconv.uint64pow10", "math/bits.deBruijn32tab"], plainKeys := false, apart := false, laid := [("math/bits.deBruijn32tab", laid_math_bits_deBruijn32tab), ("math/bits.deBruijn64tab", laid_math_bits_deBruijn64tab), ("internal/strconv.uint64pow10", laid_internal_strconv_uint64pow10), ("loop.example/g00893/impl.unitBlock", laid_loop_example_g00893_impl_unitBlock)] }
def FnExactExpectationSaid : Prop := fnExactExpectationRow.holds Tryz.pinned (OpenSpec.ofChange fnExactExpectationSpec)

/-- ITS FALSE NEIGHBOUR: 'it returns false'. Refute it at one input. -/
def fnExactExpectationWrong : ChangeSpec := { name := "fnExactExpectation", vars := ["loop.example/g00893/impl.unitBlock"], fn := fun _ => fun
  | [d, g1] => { results := [.lit (.bool false)], args := [d], vars := [g1] }
  | _ => none }
def FnExactExpectationWrongFalsely : Prop := fnExactExpectationRow.holds Tryz.pinned (OpenSpec.ofChange fnExactExpectationWrong)

/-- 'laws.FnExactVariance': WHATEVER THE INPUT: true; the input reads as it did. -/
def fnExactVarianceSpec : ChangeSpec := { name := "fnExactVariance", vars := ["loop.example/g00893/impl.unitBlock"], fn := fun _ => fun
  | [d, g1] => { results := [.lit (.bool true)], args := [d], vars := [g1] }
  | _ => none }
def fnExactVarianceRow : OpenClaim := { program := "ytlfghhmphgidjaagreatdoor", sum := "b8e96252d384efe25bd076b5e958c23e5e49290de5e267f176e16fc7588adf5a", func := "loop.example/g00893/laws.FnExactVariance", spec := "fnExactVariance", inPlace := ["math/bits.Add64", "math/bits.Sub64", "internal/abi.NoEscape", "internal/bytealg.MakeNoZero"], unfollowed := true, recurses := true, named := ["loop.example/g00893/impl.unitBlock", "math/bits.divideError", "math/bits.overflowError", "math/bits.deBruijn64tab", "internal/strconv.uint64pow10", "math/bits.deBruijn32tab"], plainKeys := false, apart := false, laid := [("math/bits.deBruijn32tab", laid_math_bits_deBruijn32tab), ("math/bits.deBruijn64tab", laid_math_bits_deBruijn64tab), ("internal/strconv.uint64pow10", laid_internal_strconv_uint64pow10), ("loop.example/g00893/impl.unitBlock", laid_loop_example_g00893_impl_unitBlock)] }
def FnExactVarianceSaid : Prop := fnExactVarianceRow.holds Tryz.pinned (OpenSpec.ofChange fnExactVarianceSpec)

/-- ITS FALSE NEIGHBOUR: 'it returns false'. Refute it at one input. -/
def fnExactVarianceWrong : ChangeSpec := { name := "fnExactVariance", vars := ["loop.example/g00893/impl.unitBlock"], fn := fun _ => fun
  | [d, g1] => { results := [.lit (.bool false)], args := [d], vars := [g1] }
  | _ => none }
def FnExactVarianceWrongFalsely : Prop := fnExactVarianceRow.holds Tryz.pinned (OpenSpec.ofChange fnExactVarianceWrong)

/-- 'laws.FnExactTotalVariation': WHATEVER THE INPUT: true; the input reads as it did. -/
def fnExactTotalVariationSpec : ChangeSpec := { name := "fnExactTotalVariation", vars := ["loop.example/g00893/impl.unitBlock"], fn := fun _ => fun
  | [d1, d2, g1] => { results := [.lit (.bool true)], args := [d1, d2], vars := [g1] }
  | _ => none }
def fnExactTotalVariationRow : OpenClaim := { program := "ytlfghhmphgidjaagreatdoor", sum := "b8e96252d384efe25bd076b5e958c23e5e49290de5e267f176e16fc7588adf5a", func := "loop.example/g00893/laws.FnExactTotalVariation", spec := "fnExactTotalVariation", inPlace := ["math/bits.Add64", "math/bits.Sub64", "internal/abi.NoEscape", "internal/bytealg.MakeNoZero"], unfollowed := true, recurses := true, named := ["loop.example/g00893/impl.unitBlock", "math/bits.divideError", "math/bits.overflowError", "math/bits.deBruijn64tab", "internal/strconv.uint64pow10", "math/bits.deBruijn32tab"], plainKeys := false, apart := false, laid := [("math/bits.deBruijn32tab", laid_math_bits_deBruijn32tab), ("math/bits.deBruijn64tab", laid_math_bits_deBruijn64tab), ("internal/strconv.uint64pow10", laid_internal_strconv_uint64pow10), ("loop.example/g00893/impl.unitBlock", laid_loop_example_g00893_impl_unitBlock)] }
def FnExactTotalVariationSaid : Prop := fnExactTotalVariationRow.holds Tryz.pinned (OpenSpec.ofChange fnExactTotalVariationSpec)

/-- ITS FALSE NEIGHBOUR: 'it returns false'. Refute it at one input. -/
def fnExactTotalVariationWrong : ChangeSpec := { name := "fnExactTotalVariation", vars := ["loop.example/g00893/impl.unitBlock"], fn := fun _ => fun
  | [d1, d2, g1] => { results := [.lit (.bool false)], args := [d1, d2], vars := [g1] }
  | _ => none }
def FnExactTotalVariationWrongFalsely : Prop := fnExactTotalVariationRow.holds Tryz.pinned (OpenSpec.ofChange fnExactTotalVariationWrong)

/-- 'laws.FnExactFormatDist': WHATEVER THE INPUT: true; the input reads as it did. -/
def fnExactFormatDistSpec : ChangeSpec := { name := "fnExactFormatDist", vars := ["loop.example/g00893/impl.unitBlock"], fn := fun _ => fun
  | [d, g1] => { results := [.lit (.bool true)], args := [d], vars := [g1] }
  | _ => none }
def fnExactFormatDistRow : OpenClaim := { program := "ytlfghhmphgidjaagreatdoor", sum := "b8e96252d384efe25bd076b5e958c23e5e49290de5e267f176e16fc7588adf5a", func := "loop.example/g00893/laws.FnExactFormatDist", spec := "fnExactFormatDist", inPlace := ["math/bits.Add64", "math/bits.Sub64", "internal/abi.NoEscape"], recurses := true, named := ["loop.example/g00893/impl.unitBlock", "math/bits.divideError", "math/bits.overflowError", "math/bits.deBruijn64tab", "internal/strconv.uint64pow10", "math/bits.deBruijn32tab"], plainKeys := false, apart := false, laid := [("math/bits.deBruijn32tab", laid_math_bits_deBruijn32tab), ("math/bits.deBruijn64tab", laid_math_bits_deBruijn64tab), ("internal/strconv.uint64pow10", laid_internal_strconv_uint64pow10), ("loop.example/g00893/impl.unitBlock", laid_loop_example_g00893_impl_unitBlock)] }
def FnExactFormatDistSaid : Prop := fnExactFormatDistRow.holds Tryz.pinned (OpenSpec.ofChange fnExactFormatDistSpec)

/-- ITS FALSE NEIGHBOUR: 'it returns false'. Refute it at one input. -/
def fnExactFormatDistWrong : ChangeSpec := { name := "fnExactFormatDist", vars := ["loop.example/g00893/impl.unitBlock"], fn := fun _ => fun
  | [d, g1] => { results := [.lit (.bool false)], args := [d], vars := [g1] }
  | _ => none }
def FnExactFormatDistWrongFalsely : Prop := fnExactFormatDistRow.holds Tryz.pinned (OpenSpec.ofChange fnExactFormatDistWrong)

/-- 'laws.FnDistributions': WHATEVER THE INPUT: true; the input reads as it did. -/
def fnDistributionsSpec : ChangeSpec := { name := "fnDistributions", vars := ["loop.example/g00893/impl.unitBlock"], fn := fun _ => fun
  | [d1, d2, g1] => { results := [.lit (.bool true)], args := [d1, d2], vars := [g1] }
  | _ => none }
def fnDistributionsRow : OpenClaim := { program := "ytlfghhmphgidjaagreatdoor", sum := "b8e96252d384efe25bd076b5e958c23e5e49290de5e267f176e16fc7588adf5a", func := "loop.example/g00893/laws.FnDistributions", spec := "fnDistributions", inPlace := ["math/bits.Add64", "math/bits.Sub64", "internal/abi.NoEscape", "internal/bytealg.MakeNoZero"], unfollowed := true, recurses := true, named := ["math/bits.deBruijn64tab", "math/bits.divideError", "math/bits.overflowError", "internal/strconv.uint64pow10", "math/bits.deBruijn32tab", "loop.example/g00893/impl.unitBlock"], plainKeys := false, apart := false, laid := [("math/bits.deBruijn32tab", laid_math_bits_deBruijn32tab), ("math/bits.deBruijn64tab", laid_math_bits_deBruijn64tab), ("internal/strconv.uint64pow10", laid_internal_strconv_uint64pow10), ("loop.example/g00893/impl.unitBlock", laid_loop_example_g00893_impl_unitBlock)] }
def FnDistributionsSaid : Prop := fnDistributionsRow.holds Tryz.pinned (OpenSpec.ofChange fnDistributionsSpec)

/-- ITS FALSE NEIGHBOUR: 'it returns false'. Refute it at one input. -/
def fnDistributionsWrong : ChangeSpec := { name := "fnDistributions", vars := ["loop.example/g00893/impl.unitBlock"], fn := fun _ => fun
  | [d1, d2, g1] => { results := [.lit (.bool false)], args := [d1, d2], vars := [g1] }
  | _ => none }
def FnDistributionsWrongFalsely : Prop := fnDistributionsRow.holds Tryz.pinned (OpenSpec.ofChange fnDistributionsWrong)

/-- 'laws.FnMoments': WHATEVER THE INPUT: true; the input reads as it did. -/
def fnMomentsSpec : ChangeSpec := { name := "fnMoments", vars := ["loop.example/g00893/impl.unitBlock"], fn := fun _ => fun
  | [d1, d2, g1] => { results := [.lit (.bool true)], args := [d1, d2], vars := [g1] }
  | _ => none }
def fnMomentsRow : OpenClaim := { program := "ytlfghhmphgidjaagreatdoor", sum := "b8e96252d384efe25bd076b5e958c23e5e49290de5e267f176e16fc7588adf5a", func := "loop.example/g00893/laws.FnMoments", spec := "fnMoments", inPlace := ["math/bits.Add64", "math/bits.Sub64", "internal/abi.NoEscape", "internal/bytealg.MakeNoZero"], unfollowed := true, recurses := true, named := ["loop.example/g00893/impl.unitBlock", "math/bits.divideError", "math/bits.overflowError", "math/bits.deBruijn64tab", "internal/strconv.uint64pow10", "math/bits.deBruijn32tab"], plainKeys := false, apart := false, laid := [("math/bits.deBruijn32tab", laid_math_bits_deBruijn32tab), ("math/bits.deBruijn64tab", laid_math_bits_deBruijn64tab), ("internal/strconv.uint64pow10", laid_internal_strconv_uint64pow10), ("loop.example/g00893/impl.unitBlock", laid_loop_example_g00893_impl_unitBlock)] }
def FnMomentsSaid : Prop := fnMomentsRow.holds Tryz.pinned (OpenSpec.ofChange fnMomentsSpec)

/-- ITS FALSE NEIGHBOUR: 'it returns false'. Refute it at one input. -/
def fnMomentsWrong : ChangeSpec := { name := "fnMoments", vars := ["loop.example/g00893/impl.unitBlock"], fn := fun _ => fun
  | [d1, d2, g1] => { results := [.lit (.bool false)], args := [d1, d2], vars := [g1] }
  | _ => none }
def FnMomentsWrongFalsely : Prop := fnMomentsRow.holds Tryz.pinned (OpenSpec.ofChange fnMomentsWrong)

/- THE SECOND FORM. 'bulk': how many values and letters a reading holds, each counted each time it is reached (what is shared counts as often as it is met; a slice's spare places count too). A statement '..UptoSaid' is the law's where the arguments, and the package variables that the reading takes, are together of bulk at most 1048576: NARROWER than '..Said'. Prove '..Said' where nothing that the law and all that it calls make is longer than what came in: it says more and counts as full. Else prove '..UptoSaid'. A law counts once. -/
mutual
def uptoBulk {H : Type} : DataW H → Nat
  | .lit (.string bytes) => bytes.length + 1
  | .lit _ => 1
  | .nil => 1
  | .ptr d => uptoBulk d + 1
  | .slice elems spare => uptoBulkAll elems + uptoBulkAll spare + 1
  | .agg parts => uptoBulkAll parts + 1
  | .iface _ d => uptoBulk d + 1
  | .map entries => uptoBulkEntries entries + 1
  | .held _ => 1
def uptoBulkAll {H : Type} : List (DataW H) → Nat
  | [] => 0
  | d :: r => uptoBulk d + uptoBulkAll r
def uptoBulkEntries {H : Type} : List (Lit × DataW H) → Nat
  | [] => 0
  | x :: r => uptoBulkEntry x + uptoBulkEntries r
def uptoBulkEntry {H : Type} : Lit × DataW H → Nat
  | (.string bytes, d) => bytes.length + uptoBulk d + 1
  | (_, d) => uptoBulk d + 1
 end
def uptoSmall : (H : Type) → List (DataW H) → Bool := fun _ ds => decide (uptoBulkAll ds ≤ 1048576)
def OpenSpec.upto (s : _root_.Go.ChangeSpec) : _root_.Go.OpenSpec := { _root_.Go.OpenSpec.ofChange s with cond := some uptoSmall }

/-- 'laws.FnExactMassOf', WHERE WHAT IT READS IS OF BULK AT MOST 1048576: true; the input reads as it did. -/
def fnExactMassOfUptoRow : OpenClaim := { program := "ytlfghhmphgidjaagreatdoor", sum := "b8e96252d384efe25bd076b5e958c23e5e49290de5e267f176e16fc7588adf5a", func := "loop.example/g00893/laws.FnExactMassOf", spec := "fnExactMassOf", inPlace := ["math/bits.Add64", "math/bits.Sub64", "internal/abi.NoEscape", "internal/bytealg.MakeNoZero"], unfollowed := true, recurses := true, named := ["loop.example/g00893/impl.unitBlock", "math/bits.divideError", "math/bits.overflowError", "math/bits.deBruijn64tab", "internal/strconv.uint64pow10", "math/bits.deBruijn32tab"], plainKeys := false, apart := false, laid := [("math/bits.deBruijn32tab", laid_math_bits_deBruijn32tab), ("math/bits.deBruijn64tab", laid_math_bits_deBruijn64tab), ("internal/strconv.uint64pow10", laid_internal_strconv_uint64pow10), ("loop.example/g00893/impl.unitBlock", laid_loop_example_g00893_impl_unitBlock)], narrowed := true }
def FnExactMassOfUptoSaid : Prop := fnExactMassOfUptoRow.holds Tryz.pinned (OpenSpec.upto fnExactMassOfSpec)

/-- 'laws.FnExactProbabilityAt', WHERE WHAT IT READS IS OF BULK AT MOST 1048576: true; the input reads as it did. -/
def fnExactProbabilityAtUptoRow : OpenClaim := { program := "ytlfghhmphgidjaagreatdoor", sum := "b8e96252d384efe25bd076b5e958c23e5e49290de5e267f176e16fc7588adf5a", func := "loop.example/g00893/laws.FnExactProbabilityAt", spec := "fnExactProbabilityAt", inPlace := ["math/bits.Add64", "math/bits.Sub64", "internal/abi.NoEscape", "internal/bytealg.MakeNoZero"], unfollowed := true, recurses := true, named := ["loop.example/g00893/impl.unitBlock", "math/bits.divideError", "math/bits.overflowError", "math/bits.deBruijn64tab", "internal/strconv.uint64pow10", "math/bits.deBruijn32tab"], plainKeys := false, apart := false, laid := [("math/bits.deBruijn32tab", laid_math_bits_deBruijn32tab), ("math/bits.deBruijn64tab", laid_math_bits_deBruijn64tab), ("internal/strconv.uint64pow10", laid_internal_strconv_uint64pow10), ("loop.example/g00893/impl.unitBlock", laid_loop_example_g00893_impl_unitBlock)], narrowed := true }
def FnExactProbabilityAtUptoSaid : Prop := fnExactProbabilityAtUptoRow.holds Tryz.pinned (OpenSpec.upto fnExactProbabilityAtSpec)

/-- 'laws.FnExactFromWeights', WHERE WHAT IT READS IS OF BULK AT MOST 1048576: true; the input reads as it did. -/
def fnExactFromWeightsUptoRow : OpenClaim := { program := "ytlfghhmphgidjaagreatdoor", sum := "b8e96252d384efe25bd076b5e958c23e5e49290de5e267f176e16fc7588adf5a", func := "loop.example/g00893/laws.FnExactFromWeights", spec := "fnExactFromWeights", inPlace := ["math/bits.Add64", "math/bits.Sub64", "internal/abi.NoEscape", "internal/bytealg.MakeNoZero"], unfollowed := true, recurses := true, named := ["math/bits.deBruijn64tab", "math/bits.divideError", "math/bits.overflowError", "internal/strconv.uint64pow10", "math/bits.deBruijn32tab"], plainKeys := false, apart := false, laid := [("math/bits.deBruijn32tab", laid_math_bits_deBruijn32tab), ("math/bits.deBruijn64tab", laid_math_bits_deBruijn64tab), ("internal/strconv.uint64pow10", laid_internal_strconv_uint64pow10)], narrowed := true }
def FnExactFromWeightsUptoSaid : Prop := fnExactFromWeightsUptoRow.holds Tryz.pinned (OpenSpec.upto fnExactFromWeightsSpec)

/-- 'laws.FnExactNormalize', WHERE WHAT IT READS IS OF BULK AT MOST 1048576: true; the input reads as it did. -/
def fnExactNormalizeUptoRow : OpenClaim := { program := "ytlfghhmphgidjaagreatdoor", sum := "b8e96252d384efe25bd076b5e958c23e5e49290de5e267f176e16fc7588adf5a", func := "loop.example/g00893/laws.FnExactNormalize", spec := "fnExactNormalize", inPlace := ["math/bits.Add64", "math/bits.Sub64", "internal/abi.NoEscape", "internal/bytealg.MakeNoZero"], unfollowed := true, recurses := true, named := ["loop.example/g00893/impl.unitBlock", "math/bits.divideError", "math/bits.overflowError", "math/bits.deBruijn64tab", "internal/strconv.uint64pow10", "math/bits.deBruijn32tab"], plainKeys := false, apart := false, laid := [("math/bits.deBruijn32tab", laid_math_bits_deBruijn32tab), ("math/bits.deBruijn64tab", laid_math_bits_deBruijn64tab), ("internal/strconv.uint64pow10", laid_internal_strconv_uint64pow10), ("loop.example/g00893/impl.unitBlock", laid_loop_example_g00893_impl_unitBlock)], narrowed := true }
def FnExactNormalizeUptoSaid : Prop := fnExactNormalizeUptoRow.holds Tryz.pinned (OpenSpec.upto fnExactNormalizeSpec)

/-- 'laws.FnExactMixture', WHERE WHAT IT READS IS OF BULK AT MOST 1048576: true; the input reads as it did. -/
def fnExactMixtureUptoRow : OpenClaim := { program := "ytlfghhmphgidjaagreatdoor", sum := "b8e96252d384efe25bd076b5e958c23e5e49290de5e267f176e16fc7588adf5a", func := "loop.example/g00893/laws.FnExactMixture", spec := "fnExactMixture", inPlace := ["math/bits.Add64", "math/bits.Sub64", "internal/abi.NoEscape", "internal/bytealg.MakeNoZero"], unfollowed := true, recurses := true, named := ["loop.example/g00893/impl.unitBlock", "math/bits.divideError", "math/bits.overflowError", "math/bits.deBruijn64tab", "internal/strconv.uint64pow10", "math/bits.deBruijn32tab"], plainKeys := false, apart := false, laid := [("math/bits.deBruijn32tab", laid_math_bits_deBruijn32tab), ("math/bits.deBruijn64tab", laid_math_bits_deBruijn64tab), ("internal/strconv.uint64pow10", laid_internal_strconv_uint64pow10), ("loop.example/g00893/impl.unitBlock", laid_loop_example_g00893_impl_unitBlock)], narrowed := true }
def FnExactMixtureUptoSaid : Prop := fnExactMixtureUptoRow.holds Tryz.pinned (OpenSpec.upto fnExactMixtureSpec)

/-- 'laws.FnExactPushForward', WHERE WHAT IT READS IS OF BULK AT MOST 1048576: true; the input reads as it did. -/
def fnExactPushForwardUptoRow : OpenClaim := { program := "ytlfghhmphgidjaagreatdoor", sum := "b8e96252d384efe25bd076b5e958c23e5e49290de5e267f176e16fc7588adf5a", func := "loop.example/g00893/laws.FnExactPushForward", spec := "fnExactPushForward", inPlace := ["math/bits.Add64", "math/bits.Sub64", "internal/abi.NoEscape", "internal/bytealg.MakeNoZero"], unfollowed := true, recurses := true, named := ["loop.example/g00893/impl.unitBlock", "math/bits.divideError", "math/bits.overflowError", "math/bits.deBruijn64tab", "internal/strconv.uint64pow10", "math/bits.deBruijn32tab"], plainKeys := false, apart := false, laid := [("math/bits.deBruijn32tab", laid_math_bits_deBruijn32tab), ("math/bits.deBruijn64tab", laid_math_bits_deBruijn64tab), ("internal/strconv.uint64pow10", laid_internal_strconv_uint64pow10), ("loop.example/g00893/impl.unitBlock", laid_loop_example_g00893_impl_unitBlock)], narrowed := true }
def FnExactPushForwardUptoSaid : Prop := fnExactPushForwardUptoRow.holds Tryz.pinned (OpenSpec.upto fnExactPushForwardSpec)

/-- 'laws.FnExactConvolve', WHERE WHAT IT READS IS OF BULK AT MOST 1048576: true; the input reads as it did. -/
def fnExactConvolveUptoRow : OpenClaim := { program := "ytlfghhmphgidjaagreatdoor", sum := "b8e96252d384efe25bd076b5e958c23e5e49290de5e267f176e16fc7588adf5a", func := "loop.example/g00893/laws.FnExactConvolve", spec := "fnExactConvolve", inPlace := ["math/bits.Add64", "math/bits.Sub64", "internal/abi.NoEscape", "internal/bytealg.MakeNoZero"], unfollowed := true, recurses := true, named := ["loop.example/g00893/impl.unitBlock", "math/bits.divideError", "math/bits.overflowError", "math/bits.deBruijn64tab", "internal/strconv.uint64pow10", "math/bits.deBruijn32tab"], plainKeys := false, apart := false, laid := [("math/bits.deBruijn32tab", laid_math_bits_deBruijn32tab), ("math/bits.deBruijn64tab", laid_math_bits_deBruijn64tab), ("internal/strconv.uint64pow10", laid_internal_strconv_uint64pow10), ("loop.example/g00893/impl.unitBlock", laid_loop_example_g00893_impl_unitBlock)], narrowed := true }
def FnExactConvolveUptoSaid : Prop := fnExactConvolveUptoRow.holds Tryz.pinned (OpenSpec.upto fnExactConvolveSpec)

/-- 'laws.FnExactExpectation', WHERE WHAT IT READS IS OF BULK AT MOST 1048576: true; the input reads as it did. -/
def fnExactExpectationUptoRow : OpenClaim := { program := "ytlfghhmphgidjaagreatdoor", sum := "b8e96252d384efe25bd076b5e958c23e5e49290de5e267f176e16fc7588adf5a", func := "loop.example/g00893/laws.FnExactExpectation", spec := "fnExactExpectation", inPlace := ["math/bits.Add64", "math/bits.Sub64", "internal/abi.NoEscape", "internal/bytealg.MakeNoZero"], unfollowed := true, recurses := true, named := ["loop.example/g00893/impl.unitBlock", "math/bits.divideError", "math/bits.overflowError", "math/bits.deBruijn64tab", "internal/strconv.uint64pow10", "math/bits.deBruijn32tab"], plainKeys := false, apart := false, laid := [("math/bits.deBruijn32tab", laid_math_bits_deBruijn32tab), ("math/bits.deBruijn64tab", laid_math_bits_deBruijn64tab), ("internal/strconv.uint64pow10", laid_internal_strconv_uint64pow10), ("loop.example/g00893/impl.unitBlock", laid_loop_example_g00893_impl_unitBlock)], narrowed := true }
def FnExactExpectationUptoSaid : Prop := fnExactExpectationUptoRow.holds Tryz.pinned (OpenSpec.upto fnExactExpectationSpec)

/-- 'laws.FnExactVariance', WHERE WHAT IT READS IS OF BULK AT MOST 1048576: true; the input reads as it did. -/
def fnExactVarianceUptoRow : OpenClaim := { program := "ytlfghhmphgidjaagreatdoor", sum := "b8e96252d384efe25bd076b5e958c23e5e49290de5e267f176e16fc7588adf5a", func := "loop.example/g00893/laws.FnExactVariance", spec := "fnExactVariance", inPlace := ["math/bits.Add64", "math/bits.Sub64", "internal/abi.NoEscape", "internal/bytealg.MakeNoZero"], unfollowed := true, recurses := true, named := ["loop.example/g00893/impl.unitBlock", "math/bits.divideError", "math/bits.overflowError", "math/bits.deBruijn64tab", "internal/strconv.uint64pow10", "math/bits.deBruijn32tab"], plainKeys := false, apart := false, laid := [("math/bits.deBruijn32tab", laid_math_bits_deBruijn32tab), ("math/bits.deBruijn64tab", laid_math_bits_deBruijn64tab), ("internal/strconv.uint64pow10", laid_internal_strconv_uint64pow10), ("loop.example/g00893/impl.unitBlock", laid_loop_example_g00893_impl_unitBlock)], narrowed := true }
def FnExactVarianceUptoSaid : Prop := fnExactVarianceUptoRow.holds Tryz.pinned (OpenSpec.upto fnExactVarianceSpec)

/-- 'laws.FnExactTotalVariation', WHERE WHAT IT READS IS OF BULK AT MOST 1048576: true; the input reads as it did. -/
def fnExactTotalVariationUptoRow : OpenClaim := { program := "ytlfghhmphgidjaagreatdoor", sum := "b8e96252d384efe25bd076b5e958c23e5e49290de5e267f176e16fc7588adf5a", func := "loop.example/g00893/laws.FnExactTotalVariation", spec := "fnExactTotalVariation", inPlace := ["math/bits.Add64", "math/bits.Sub64", "internal/abi.NoEscape", "internal/bytealg.MakeNoZero"], unfollowed := true, recurses := true, named := ["loop.example/g00893/impl.unitBlock", "math/bits.divideError", "math/bits.overflowError", "math/bits.deBruijn64tab", "internal/strconv.uint64pow10", "math/bits.deBruijn32tab"], plainKeys := false, apart := false, laid := [("math/bits.deBruijn32tab", laid_math_bits_deBruijn32tab), ("math/bits.deBruijn64tab", laid_math_bits_deBruijn64tab), ("internal/strconv.uint64pow10", laid_internal_strconv_uint64pow10), ("loop.example/g00893/impl.unitBlock", laid_loop_example_g00893_impl_unitBlock)], narrowed := true }
def FnExactTotalVariationUptoSaid : Prop := fnExactTotalVariationUptoRow.holds Tryz.pinned (OpenSpec.upto fnExactTotalVariationSpec)

/-- 'laws.FnExactFormatDist', WHERE WHAT IT READS IS OF BULK AT MOST 1048576: true; the input reads as it did. -/
def fnExactFormatDistUptoRow : OpenClaim := { program := "ytlfghhmphgidjaagreatdoor", sum := "b8e96252d384efe25bd076b5e958c23e5e49290de5e267f176e16fc7588adf5a", func := "loop.example/g00893/laws.FnExactFormatDist", spec := "fnExactFormatDist", inPlace := ["math/bits.Add64", "math/bits.Sub64", "internal/abi.NoEscape"], recurses := true, named := ["loop.example/g00893/impl.unitBlock", "math/bits.divideError", "math/bits.overflowError", "math/bits.deBruijn64tab", "internal/strconv.uint64pow10", "math/bits.deBruijn32tab"], plainKeys := false, apart := false, laid := [("math/bits.deBruijn32tab", laid_math_bits_deBruijn32tab), ("math/bits.deBruijn64tab", laid_math_bits_deBruijn64tab), ("internal/strconv.uint64pow10", laid_internal_strconv_uint64pow10), ("loop.example/g00893/impl.unitBlock", laid_loop_example_g00893_impl_unitBlock)], narrowed := true }
def FnExactFormatDistUptoSaid : Prop := fnExactFormatDistUptoRow.holds Tryz.pinned (OpenSpec.upto fnExactFormatDistSpec)

/-- 'laws.FnDistributions', WHERE WHAT IT READS IS OF BULK AT MOST 1048576: true; the input reads as it did. -/
def fnDistributionsUptoRow : OpenClaim := { program := "ytlfghhmphgidjaagreatdoor", sum := "b8e96252d384efe25bd076b5e958c23e5e49290de5e267f176e16fc7588adf5a", func := "loop.example/g00893/laws.FnDistributions", spec := "fnDistributions", inPlace := ["math/bits.Add64", "math/bits.Sub64", "internal/abi.NoEscape", "internal/bytealg.MakeNoZero"], unfollowed := true, recurses := true, named := ["math/bits.deBruijn64tab", "math/bits.divideError", "math/bits.overflowError", "internal/strconv.uint64pow10", "math/bits.deBruijn32tab", "loop.example/g00893/impl.unitBlock"], plainKeys := false, apart := false, laid := [("math/bits.deBruijn32tab", laid_math_bits_deBruijn32tab), ("math/bits.deBruijn64tab", laid_math_bits_deBruijn64tab), ("internal/strconv.uint64pow10", laid_internal_strconv_uint64pow10), ("loop.example/g00893/impl.unitBlock", laid_loop_example_g00893_impl_unitBlock)], narrowed := true }
def FnDistributionsUptoSaid : Prop := fnDistributionsUptoRow.holds Tryz.pinned (OpenSpec.upto fnDistributionsSpec)

/-- 'laws.FnMoments', WHERE WHAT IT READS IS OF BULK AT MOST 1048576: true; the input reads as it did. -/
def fnMomentsUptoRow : OpenClaim := { program := "ytlfghhmphgidjaagreatdoor", sum := "b8e96252d384efe25bd076b5e958c23e5e49290de5e267f176e16fc7588adf5a", func := "loop.example/g00893/laws.FnMoments", spec := "fnMoments", inPlace := ["math/bits.Add64", "math/bits.Sub64", "internal/abi.NoEscape", "internal/bytealg.MakeNoZero"], unfollowed := true, recurses := true, named := ["loop.example/g00893/impl.unitBlock", "math/bits.divideError", "math/bits.overflowError", "math/bits.deBruijn64tab", "internal/strconv.uint64pow10", "math/bits.deBruijn32tab"], plainKeys := false, apart := false, laid := [("math/bits.deBruijn32tab", laid_math_bits_deBruijn32tab), ("math/bits.deBruijn64tab", laid_math_bits_deBruijn64tab), ("internal/strconv.uint64pow10", laid_internal_strconv_uint64pow10), ("loop.example/g00893/impl.unitBlock", laid_loop_example_g00893_impl_unitBlock)], narrowed := true }
def FnMomentsUptoSaid : Prop := fnMomentsUptoRow.holds Tryz.pinned (OpenSpec.upto fnMomentsSpec)

end Rows
end Go.Proofs.YtlfghhmphgidjaaGreatDoor
