/-
  NARROWER THAN 'FOR EVERY INPUT', by the rows' own cells (each row's printed sentence says how): FnExactIsValidRat: laid · FnExactRatOf: laid · FnExactAddRat: laid · FnExactSubRat: laid · FnExactMulRat: laid · FnExactDivRat: laid · FnExactCompareRat: laid · FnExactPowRat: laid · FnExactFormatRat: laid · FnExactParseRat: laid · FnExactDecimalOf: laid.
  DERIVED. THE GIVEN ROWS OF THIS SEAT. 11 by the template 'for every input the law returns true; each argument reads behind the call as it read before'; 0 by the template 'total and deterministic' (their statements: YteefgmnjhlmbiaaDoorTotals.lean).
  GIVEN WITH THE SEED: the statements are not yours to turn. If you find one false, say at which input.
  Laid BY PROGRAM, IN A SANDBOX (cutbox-rows.mjs): the forced cells as the released guide's own fill.sh prints them over the translation 2b34d09f8dc1faf9… (all of the seat's roots in one cut). By AI agents, Wed Nov 11 2026. No macro, syntax, notation, axiom, sorry.
-/
import Derived.Test.YteefgmnjhlmbiaaDoorChecked
import GoSem.Claim
import GoSem.ClaimJoined
import GoSem.ClaimMapViews
import Derived.JoinedTies
import Derived.KernelRfl
namespace Go.Proofs.YteefgmnjhlmbiaaDoor
/- THE CELL 'sum', in the pinned program and in every row, IS THE sha256 OF THE DUMP (.gsa) THAT YteefgmnjhlmbiaaDoorProg.lean LOADS. Nothing in Lean hashes anything: it is a label: what it is worth is what the hold of that sum in a sandbox is worth. -/
noncomputable def Tryd.pinned : Pinned := { name := "yteefgmnjhlmbiaadoor", sum := "2b34d09f8dc1faf919f963dd4b7025086f06a11c79689b48ad89ce5209df2ca9", checked := Tryd.checked }
namespace Rows
def none {H : Type} : Left H := { results := [], args := [] }

/- WHAT THE LISTED PACKAGE-LEVEL VARIABLES READ AS WHEN THE CALL BEGINS. Each datum BY PROGRAM (the guide's laid-datum.mjs) off the statement by which the dump's own 'gosem.cut.vars' lays the variable. In a bare row this is a premise. The card (YteefgmnjhlmbiaaDoorCards.lean) ties it to the program's text. -/
def laid_math_bits_deBruijn64tab {H : Type} : DataW H := .agg [.lit (.int .u8 0), .lit (.int .u8 1), .lit (.int .u8 56), .lit (.int .u8 2), .lit (.int .u8 57), .lit (.int .u8 49), .lit (.int .u8 28), .lit (.int .u8 3), .lit (.int .u8 61), .lit (.int .u8 58), .lit (.int .u8 42), .lit (.int .u8 50), .lit (.int .u8 38), .lit (.int .u8 29), .lit (.int .u8 17), .lit (.int .u8 4), .lit (.int .u8 62), .lit (.int .u8 47), .lit (.int .u8 59), .lit (.int .u8 36), .lit (.int .u8 45), .lit (.int .u8 43), .lit (.int .u8 51), .lit (.int .u8 22), .lit (.int .u8 53), .lit (.int .u8 39), .lit (.int .u8 33), .lit (.int .u8 30), .lit (.int .u8 24), .lit (.int .u8 18), .lit (.int .u8 12), .lit (.int .u8 5), .lit (.int .u8 63), .lit (.int .u8 55), .lit (.int .u8 48), .lit (.int .u8 27), .lit (.int .u8 60), .lit (.int .u8 41), .lit (.int .u8 37), .lit (.int .u8 16), .lit (.int .u8 46), .lit (.int .u8 35), .lit (.int .u8 44), .lit (.int .u8 21), .lit (.int .u8 52), .lit (.int .u8 32), .lit (.int .u8 23), .lit (.int .u8 11), .lit (.int .u8 54), .lit (.int .u8 26), .lit (.int .u8 40), .lit (.int .u8 15), .lit (.int .u8 34), .lit (.int .u8 20), .lit (.int .u8 31), .lit (.int .u8 10), .lit (.int .u8 25), .lit (.int .u8 14), .lit (.int .u8 19), .lit (.int .u8 9), .lit (.int .u8 13), .lit (.int .u8 8), .lit (.int .u8 7), .lit (.int .u8 6)]
def laid_loop_example_g00893_impl_unitBlock {H : Type} : DataW H := .agg [.lit (.int .u64 1), .lit (.int .u64 0), .lit (.int .u64 0), .lit (.int .u64 0), .lit (.int .u64 0), .lit (.int .u64 0), .lit (.int .u64 0)]
def laid_math_bits_deBruijn32tab {H : Type} : DataW H := .agg [.lit (.int .u8 0), .lit (.int .u8 1), .lit (.int .u8 28), .lit (.int .u8 2), .lit (.int .u8 29), .lit (.int .u8 14), .lit (.int .u8 24), .lit (.int .u8 3), .lit (.int .u8 30), .lit (.int .u8 22), .lit (.int .u8 20), .lit (.int .u8 15), .lit (.int .u8 25), .lit (.int .u8 17), .lit (.int .u8 4), .lit (.int .u8 8), .lit (.int .u8 31), .lit (.int .u8 27), .lit (.int .u8 13), .lit (.int .u8 23), .lit (.int .u8 21), .lit (.int .u8 19), .lit (.int .u8 16), .lit (.int .u8 7), .lit (.int .u8 26), .lit (.int .u8 12), .lit (.int .u8 18), .lit (.int .u8 6), .lit (.int .u8 11), .lit (.int .u8 5), .lit (.int .u8 10), .lit (.int .u8 9)]
def laid_internal_strconv_uint64pow10 {H : Type} : DataW H := .agg [.lit (.int .u64 1), .lit (.int .u64 10), .lit (.int .u64 100), .lit (.int .u64 1000), .lit (.int .u64 10000), .lit (.int .u64 100000), .lit (.int .u64 1000000), .lit (.int .u64 10000000), .lit (.int .u64 100000000), .lit (.int .u64 1000000000), .lit (.int .u64 10000000000), .lit (.int .u64 100000000000), .lit (.int .u64 1000000000000), .lit (.int .u64 10000000000000), .lit (.int .u64 100000000000000), .lit (.int .u64 1000000000000000), .lit (.int .u64 10000000000000000), .lit (.int .u64 100000000000000000), .lit (.int .u64 1000000000000000000), .lit (.int .u64 10000000000000000000)]

/-- 'laws.FnExactIsValidRat': WHATEVER THE INPUT: true; the input reads as it did. -/
def fnExactIsValidRatSpec : ChangeSpec := { name := "fnExactIsValidRat", vars := ["loop.example/g00893/impl.unitBlock"], fn := fun _ => fun
  | [d, g1] => { results := [.lit (.bool true)], args := [d], vars := [g1] }
  | _ => none }
def fnExactIsValidRatRow : OpenClaim := { program := "yteefgmnjhlmbiaadoor", sum := "2b34d09f8dc1faf919f963dd4b7025086f06a11c79689b48ad89ce5209df2ca9", func := "loop.example/g00893/laws.FnExactIsValidRat", spec := "fnExactIsValidRat", inPlace := ["math/bits.Add64", "math/bits.Sub64"], named := ["loop.example/g00893/impl.unitBlock", "math/bits.divideError", "math/bits.overflowError", "math/bits.deBruijn64tab"], apart := false, laid := [("math/bits.deBruijn64tab", laid_math_bits_deBruijn64tab), ("loop.example/g00893/impl.unitBlock", laid_loop_example_g00893_impl_unitBlock)] }
def FnExactIsValidRatSaid : Prop := fnExactIsValidRatRow.holds Tryd.pinned (OpenSpec.ofChange fnExactIsValidRatSpec)

/-- ITS FALSE NEIGHBOUR: 'it returns false'. Refute it at one input. -/
def fnExactIsValidRatWrong : ChangeSpec := { name := "fnExactIsValidRat", vars := ["loop.example/g00893/impl.unitBlock"], fn := fun _ => fun
  | [d, g1] => { results := [.lit (.bool false)], args := [d], vars := [g1] }
  | _ => none }
def FnExactIsValidRatWrongFalsely : Prop := fnExactIsValidRatRow.holds Tryd.pinned (OpenSpec.ofChange fnExactIsValidRatWrong)

/-- 'laws.FnExactRatOf': WHATEVER THE INPUT: true; the input reads as it did. -/
def fnExactRatOfSpec : ChangeSpec := { name := "fnExactRatOf", fn := fun _ => fun
  | [d1, d2] => { results := [.lit (.bool true)], args := [d1, d2] }
  | _ => none }
def fnExactRatOfRow : OpenClaim := { program := "yteefgmnjhlmbiaadoor", sum := "2b34d09f8dc1faf919f963dd4b7025086f06a11c79689b48ad89ce5209df2ca9", func := "loop.example/g00893/laws.FnExactRatOf", spec := "fnExactRatOf", inPlace := ["internal/abi.NoEscape", "internal/bytealg.MakeNoZero"], unfollowed := true, recurses := true, named := ["math/bits.deBruijn64tab", "math/bits.divideError", "math/bits.overflowError", "internal/strconv.uint64pow10", "math/bits.deBruijn32tab"], apart := false, laid := [("math/bits.deBruijn32tab", laid_math_bits_deBruijn32tab), ("math/bits.deBruijn64tab", laid_math_bits_deBruijn64tab), ("internal/strconv.uint64pow10", laid_internal_strconv_uint64pow10)] }
def FnExactRatOfSaid : Prop := fnExactRatOfRow.holds Tryd.pinned (OpenSpec.ofChange fnExactRatOfSpec)

/-- ITS FALSE NEIGHBOUR: 'it returns false'. Refute it at one input. -/
def fnExactRatOfWrong : ChangeSpec := { name := "fnExactRatOf", fn := fun _ => fun
  | [d1, d2] => { results := [.lit (.bool false)], args := [d1, d2] }
  | _ => none }
def FnExactRatOfWrongFalsely : Prop := fnExactRatOfRow.holds Tryd.pinned (OpenSpec.ofChange fnExactRatOfWrong)

/-- 'laws.FnExactAddRat': WHATEVER THE INPUT: true; the input reads as it did. -/
def fnExactAddRatSpec : ChangeSpec := { name := "fnExactAddRat", vars := ["loop.example/g00893/impl.unitBlock"], fn := fun _ => fun
  | [d1, d2, g1] => { results := [.lit (.bool true)], args := [d1, d2], vars := [g1] }
  | _ => none }
def fnExactAddRatRow : OpenClaim := { program := "yteefgmnjhlmbiaadoor", sum := "2b34d09f8dc1faf919f963dd4b7025086f06a11c79689b48ad89ce5209df2ca9", func := "loop.example/g00893/laws.FnExactAddRat", spec := "fnExactAddRat", inPlace := ["math/bits.Add64", "math/bits.Sub64", "internal/abi.NoEscape", "internal/bytealg.MakeNoZero"], unfollowed := true, recurses := true, named := ["loop.example/g00893/impl.unitBlock", "math/bits.divideError", "math/bits.overflowError", "math/bits.deBruijn64tab", "internal/strconv.uint64pow10", "math/bits.deBruijn32tab"], apart := false, laid := [("math/bits.deBruijn32tab", laid_math_bits_deBruijn32tab), ("math/bits.deBruijn64tab", laid_math_bits_deBruijn64tab), ("internal/strconv.uint64pow10", laid_internal_strconv_uint64pow10), ("loop.example/g00893/impl.unitBlock", laid_loop_example_g00893_impl_unitBlock)] }
def FnExactAddRatSaid : Prop := fnExactAddRatRow.holds Tryd.pinned (OpenSpec.ofChange fnExactAddRatSpec)

/-- ITS FALSE NEIGHBOUR: 'it returns false'. Refute it at one input. -/
def fnExactAddRatWrong : ChangeSpec := { name := "fnExactAddRat", vars := ["loop.example/g00893/impl.unitBlock"], fn := fun _ => fun
  | [d1, d2, g1] => { results := [.lit (.bool false)], args := [d1, d2], vars := [g1] }
  | _ => none }
def FnExactAddRatWrongFalsely : Prop := fnExactAddRatRow.holds Tryd.pinned (OpenSpec.ofChange fnExactAddRatWrong)

/-- 'laws.FnExactSubRat': WHATEVER THE INPUT: true; the input reads as it did. -/
def fnExactSubRatSpec : ChangeSpec := { name := "fnExactSubRat", vars := ["loop.example/g00893/impl.unitBlock"], fn := fun _ => fun
  | [d1, d2, g1] => { results := [.lit (.bool true)], args := [d1, d2], vars := [g1] }
  | _ => none }
def fnExactSubRatRow : OpenClaim := { program := "yteefgmnjhlmbiaadoor", sum := "2b34d09f8dc1faf919f963dd4b7025086f06a11c79689b48ad89ce5209df2ca9", func := "loop.example/g00893/laws.FnExactSubRat", spec := "fnExactSubRat", inPlace := ["math/bits.Add64", "math/bits.Sub64", "internal/abi.NoEscape", "internal/bytealg.MakeNoZero"], unfollowed := true, recurses := true, named := ["loop.example/g00893/impl.unitBlock", "math/bits.divideError", "math/bits.overflowError", "math/bits.deBruijn64tab", "internal/strconv.uint64pow10", "math/bits.deBruijn32tab"], apart := false, laid := [("math/bits.deBruijn32tab", laid_math_bits_deBruijn32tab), ("math/bits.deBruijn64tab", laid_math_bits_deBruijn64tab), ("internal/strconv.uint64pow10", laid_internal_strconv_uint64pow10), ("loop.example/g00893/impl.unitBlock", laid_loop_example_g00893_impl_unitBlock)] }
def FnExactSubRatSaid : Prop := fnExactSubRatRow.holds Tryd.pinned (OpenSpec.ofChange fnExactSubRatSpec)

/-- ITS FALSE NEIGHBOUR: 'it returns false'. Refute it at one input. -/
def fnExactSubRatWrong : ChangeSpec := { name := "fnExactSubRat", vars := ["loop.example/g00893/impl.unitBlock"], fn := fun _ => fun
  | [d1, d2, g1] => { results := [.lit (.bool false)], args := [d1, d2], vars := [g1] }
  | _ => none }
def FnExactSubRatWrongFalsely : Prop := fnExactSubRatRow.holds Tryd.pinned (OpenSpec.ofChange fnExactSubRatWrong)

/-- 'laws.FnExactMulRat': WHATEVER THE INPUT: true; the input reads as it did. -/
def fnExactMulRatSpec : ChangeSpec := { name := "fnExactMulRat", vars := ["loop.example/g00893/impl.unitBlock"], fn := fun _ => fun
  | [d1, d2, g1] => { results := [.lit (.bool true)], args := [d1, d2], vars := [g1] }
  | _ => none }
def fnExactMulRatRow : OpenClaim := { program := "yteefgmnjhlmbiaadoor", sum := "2b34d09f8dc1faf919f963dd4b7025086f06a11c79689b48ad89ce5209df2ca9", func := "loop.example/g00893/laws.FnExactMulRat", spec := "fnExactMulRat", inPlace := ["math/bits.Add64", "math/bits.Sub64", "internal/abi.NoEscape", "internal/bytealg.MakeNoZero"], unfollowed := true, recurses := true, named := ["loop.example/g00893/impl.unitBlock", "math/bits.divideError", "math/bits.overflowError", "math/bits.deBruijn64tab", "internal/strconv.uint64pow10", "math/bits.deBruijn32tab"], apart := false, laid := [("math/bits.deBruijn32tab", laid_math_bits_deBruijn32tab), ("math/bits.deBruijn64tab", laid_math_bits_deBruijn64tab), ("internal/strconv.uint64pow10", laid_internal_strconv_uint64pow10), ("loop.example/g00893/impl.unitBlock", laid_loop_example_g00893_impl_unitBlock)] }
def FnExactMulRatSaid : Prop := fnExactMulRatRow.holds Tryd.pinned (OpenSpec.ofChange fnExactMulRatSpec)

/-- ITS FALSE NEIGHBOUR: 'it returns false'. Refute it at one input. -/
def fnExactMulRatWrong : ChangeSpec := { name := "fnExactMulRat", vars := ["loop.example/g00893/impl.unitBlock"], fn := fun _ => fun
  | [d1, d2, g1] => { results := [.lit (.bool false)], args := [d1, d2], vars := [g1] }
  | _ => none }
def FnExactMulRatWrongFalsely : Prop := fnExactMulRatRow.holds Tryd.pinned (OpenSpec.ofChange fnExactMulRatWrong)

/-- 'laws.FnExactDivRat': WHATEVER THE INPUT: true; the input reads as it did. -/
def fnExactDivRatSpec : ChangeSpec := { name := "fnExactDivRat", vars := ["loop.example/g00893/impl.unitBlock"], fn := fun _ => fun
  | [d1, d2, g1] => { results := [.lit (.bool true)], args := [d1, d2], vars := [g1] }
  | _ => none }
def fnExactDivRatRow : OpenClaim := { program := "yteefgmnjhlmbiaadoor", sum := "2b34d09f8dc1faf919f963dd4b7025086f06a11c79689b48ad89ce5209df2ca9", func := "loop.example/g00893/laws.FnExactDivRat", spec := "fnExactDivRat", inPlace := ["math/bits.Add64", "math/bits.Sub64", "internal/abi.NoEscape", "internal/bytealg.MakeNoZero"], unfollowed := true, recurses := true, named := ["loop.example/g00893/impl.unitBlock", "math/bits.divideError", "math/bits.overflowError", "math/bits.deBruijn64tab", "internal/strconv.uint64pow10", "math/bits.deBruijn32tab"], apart := false, laid := [("math/bits.deBruijn32tab", laid_math_bits_deBruijn32tab), ("math/bits.deBruijn64tab", laid_math_bits_deBruijn64tab), ("internal/strconv.uint64pow10", laid_internal_strconv_uint64pow10), ("loop.example/g00893/impl.unitBlock", laid_loop_example_g00893_impl_unitBlock)] }
def FnExactDivRatSaid : Prop := fnExactDivRatRow.holds Tryd.pinned (OpenSpec.ofChange fnExactDivRatSpec)

/-- ITS FALSE NEIGHBOUR: 'it returns false'. Refute it at one input. -/
def fnExactDivRatWrong : ChangeSpec := { name := "fnExactDivRat", vars := ["loop.example/g00893/impl.unitBlock"], fn := fun _ => fun
  | [d1, d2, g1] => { results := [.lit (.bool false)], args := [d1, d2], vars := [g1] }
  | _ => none }
def FnExactDivRatWrongFalsely : Prop := fnExactDivRatRow.holds Tryd.pinned (OpenSpec.ofChange fnExactDivRatWrong)

/-- 'laws.FnExactCompareRat': WHATEVER THE INPUT: true; the input reads as it did. -/
def fnExactCompareRatSpec : ChangeSpec := { name := "fnExactCompareRat", vars := ["loop.example/g00893/impl.unitBlock"], fn := fun _ => fun
  | [d1, d2, g1] => { results := [.lit (.bool true)], args := [d1, d2], vars := [g1] }
  | _ => none }
def fnExactCompareRatRow : OpenClaim := { program := "yteefgmnjhlmbiaadoor", sum := "2b34d09f8dc1faf919f963dd4b7025086f06a11c79689b48ad89ce5209df2ca9", func := "loop.example/g00893/laws.FnExactCompareRat", spec := "fnExactCompareRat", inPlace := ["math/bits.Add64", "math/bits.Sub64"], named := ["loop.example/g00893/impl.unitBlock", "math/bits.divideError", "math/bits.overflowError", "math/bits.deBruijn64tab"], apart := false, laid := [("math/bits.deBruijn64tab", laid_math_bits_deBruijn64tab), ("loop.example/g00893/impl.unitBlock", laid_loop_example_g00893_impl_unitBlock)] }
def FnExactCompareRatSaid : Prop := fnExactCompareRatRow.holds Tryd.pinned (OpenSpec.ofChange fnExactCompareRatSpec)

/-- ITS FALSE NEIGHBOUR: 'it returns false'. Refute it at one input. -/
def fnExactCompareRatWrong : ChangeSpec := { name := "fnExactCompareRat", vars := ["loop.example/g00893/impl.unitBlock"], fn := fun _ => fun
  | [d1, d2, g1] => { results := [.lit (.bool false)], args := [d1, d2], vars := [g1] }
  | _ => none }
def FnExactCompareRatWrongFalsely : Prop := fnExactCompareRatRow.holds Tryd.pinned (OpenSpec.ofChange fnExactCompareRatWrong)

/-- 'laws.FnExactPowRat': WHATEVER THE INPUT: true; the input reads as it did. -/
def fnExactPowRatSpec : ChangeSpec := { name := "fnExactPowRat", vars := ["loop.example/g00893/impl.unitBlock"], fn := fun _ => fun
  | [d1, d2, g1] => { results := [.lit (.bool true)], args := [d1, d2], vars := [g1] }
  | _ => none }
def fnExactPowRatRow : OpenClaim := { program := "yteefgmnjhlmbiaadoor", sum := "2b34d09f8dc1faf919f963dd4b7025086f06a11c79689b48ad89ce5209df2ca9", func := "loop.example/g00893/laws.FnExactPowRat", spec := "fnExactPowRat", inPlace := ["math/bits.Add64", "math/bits.Sub64", "internal/abi.NoEscape", "internal/bytealg.MakeNoZero"], unfollowed := true, recurses := true, named := ["loop.example/g00893/impl.unitBlock", "math/bits.divideError", "math/bits.overflowError", "math/bits.deBruijn64tab", "internal/strconv.uint64pow10", "math/bits.deBruijn32tab"], apart := false, laid := [("math/bits.deBruijn32tab", laid_math_bits_deBruijn32tab), ("math/bits.deBruijn64tab", laid_math_bits_deBruijn64tab), ("internal/strconv.uint64pow10", laid_internal_strconv_uint64pow10), ("loop.example/g00893/impl.unitBlock", laid_loop_example_g00893_impl_unitBlock)] }
def FnExactPowRatSaid : Prop := fnExactPowRatRow.holds Tryd.pinned (OpenSpec.ofChange fnExactPowRatSpec)

/-- ITS FALSE NEIGHBOUR: 'it returns false'. Refute it at one input. -/
def fnExactPowRatWrong : ChangeSpec := { name := "fnExactPowRat", vars := ["loop.example/g00893/impl.unitBlock"], fn := fun _ => fun
  | [d1, d2, g1] => { results := [.lit (.bool false)], args := [d1, d2], vars := [g1] }
  | _ => none }
def FnExactPowRatWrongFalsely : Prop := fnExactPowRatRow.holds Tryd.pinned (OpenSpec.ofChange fnExactPowRatWrong)

/-- 'laws.FnExactFormatRat': WHATEVER THE INPUT: true; the input reads as it did. -/
def fnExactFormatRatSpec : ChangeSpec := { name := "fnExactFormatRat", vars := ["loop.example/g00893/impl.unitBlock"], fn := fun _ => fun
  | [d, g1] => { results := [.lit (.bool true)], args := [d], vars := [g1] }
  | _ => none }
def fnExactFormatRatRow : OpenClaim := { program := "yteefgmnjhlmbiaadoor", sum := "2b34d09f8dc1faf919f963dd4b7025086f06a11c79689b48ad89ce5209df2ca9", func := "loop.example/g00893/laws.FnExactFormatRat", spec := "fnExactFormatRat", inPlace := ["math/bits.Add64", "math/bits.Sub64", "internal/abi.NoEscape"], named := ["loop.example/g00893/impl.unitBlock", "math/bits.divideError", "math/bits.overflowError", "math/bits.deBruijn64tab"], apart := false, laid := [("math/bits.deBruijn64tab", laid_math_bits_deBruijn64tab), ("loop.example/g00893/impl.unitBlock", laid_loop_example_g00893_impl_unitBlock)] }
def FnExactFormatRatSaid : Prop := fnExactFormatRatRow.holds Tryd.pinned (OpenSpec.ofChange fnExactFormatRatSpec)

/-- ITS FALSE NEIGHBOUR: 'it returns false'. Refute it at one input. -/
def fnExactFormatRatWrong : ChangeSpec := { name := "fnExactFormatRat", vars := ["loop.example/g00893/impl.unitBlock"], fn := fun _ => fun
  | [d, g1] => { results := [.lit (.bool false)], args := [d], vars := [g1] }
  | _ => none }
def FnExactFormatRatWrongFalsely : Prop := fnExactFormatRatRow.holds Tryd.pinned (OpenSpec.ofChange fnExactFormatRatWrong)

/-- 'laws.FnExactParseRat': WHATEVER THE INPUT: true; the input reads as it did. -/
def fnExactParseRatSpec : ChangeSpec := { name := "fnExactParseRat", vars := ["loop.example/g00893/impl.unitBlock"], fn := fun _ => fun
  | [d, g1] => { results := [.lit (.bool true)], args := [d], vars := [g1] }
  | _ => none }
def fnExactParseRatRow : OpenClaim := { program := "yteefgmnjhlmbiaadoor", sum := "2b34d09f8dc1faf919f963dd4b7025086f06a11c79689b48ad89ce5209df2ca9", func := "loop.example/g00893/laws.FnExactParseRat", spec := "fnExactParseRat", inPlace := ["internal/bytealg.IndexByteString", "internal/bytealg.IndexString", "math/bits.Add64", "math/bits.Sub64"], named := ["internal/bytealg.MaxLen", "loop.example/g00893/impl.unitBlock", "math/bits.divideError", "math/bits.overflowError", "math/bits.deBruijn64tab"], apart := false, laid := [("math/bits.deBruijn64tab", laid_math_bits_deBruijn64tab), ("loop.example/g00893/impl.unitBlock", laid_loop_example_g00893_impl_unitBlock)] }
def FnExactParseRatSaid : Prop := fnExactParseRatRow.holds Tryd.pinned (OpenSpec.ofChange fnExactParseRatSpec)

/-- ITS FALSE NEIGHBOUR: 'it returns false'. Refute it at one input. -/
def fnExactParseRatWrong : ChangeSpec := { name := "fnExactParseRat", vars := ["loop.example/g00893/impl.unitBlock"], fn := fun _ => fun
  | [d, g1] => { results := [.lit (.bool false)], args := [d], vars := [g1] }
  | _ => none }
def FnExactParseRatWrongFalsely : Prop := fnExactParseRatRow.holds Tryd.pinned (OpenSpec.ofChange fnExactParseRatWrong)

/-- 'laws.FnExactDecimalOf': WHATEVER THE INPUT: true; the input reads as it did. -/
def fnExactDecimalOfSpec : ChangeSpec := { name := "fnExactDecimalOf", vars := ["loop.example/g00893/impl.unitBlock"], fn := fun _ => fun
  | [d1, d2, g1] => { results := [.lit (.bool true)], args := [d1, d2], vars := [g1] }
  | _ => none }
def fnExactDecimalOfRow : OpenClaim := { program := "yteefgmnjhlmbiaadoor", sum := "2b34d09f8dc1faf919f963dd4b7025086f06a11c79689b48ad89ce5209df2ca9", func := "loop.example/g00893/laws.FnExactDecimalOf", spec := "fnExactDecimalOf", inPlace := ["math/bits.Add64", "math/bits.Sub64", "internal/abi.NoEscape", "internal/bytealg.MakeNoZero"], unfollowed := true, recurses := true, named := ["loop.example/g00893/impl.unitBlock", "math/bits.divideError", "math/bits.overflowError", "math/bits.deBruijn64tab", "internal/strconv.uint64pow10", "math/bits.deBruijn32tab"], apart := false, laid := [("math/bits.deBruijn32tab", laid_math_bits_deBruijn32tab), ("math/bits.deBruijn64tab", laid_math_bits_deBruijn64tab), ("internal/strconv.uint64pow10", laid_internal_strconv_uint64pow10), ("loop.example/g00893/impl.unitBlock", laid_loop_example_g00893_impl_unitBlock)] }
def FnExactDecimalOfSaid : Prop := fnExactDecimalOfRow.holds Tryd.pinned (OpenSpec.ofChange fnExactDecimalOfSpec)

/-- ITS FALSE NEIGHBOUR: 'it returns false'. Refute it at one input. -/
def fnExactDecimalOfWrong : ChangeSpec := { name := "fnExactDecimalOf", vars := ["loop.example/g00893/impl.unitBlock"], fn := fun _ => fun
  | [d1, d2, g1] => { results := [.lit (.bool false)], args := [d1, d2], vars := [g1] }
  | _ => none }
def FnExactDecimalOfWrongFalsely : Prop := fnExactDecimalOfRow.holds Tryd.pinned (OpenSpec.ofChange fnExactDecimalOfWrong)

/- THE SECOND FORM. 'bulk': how many values and letters a reading holds, each counted each time it is reached (what is shared counts as often as it is met; a slice's spare places count too). A statement '..UptoSaid' is the law's where the arguments, and the package variables that the reading takes, are together of bulk at most 1048576: NARROWER than '..Said'. Prove '..Said' where nothing that the law and all that it calls make is longer than what came in: it says more and counts as full. Else prove '..UptoSaid'. A law counts once. -/
mutual
def uptoBulk {H : Type} : DataW H → Nat
  | .lit (.string bytes) => bytes.length + 1
  | .lit _ => 1
  | .nil => 1
  | .ptr d => uptoBulk d + 1
  | .slice elems spare => uptoBulkAll elems + uptoBulkAll spare + 1
  | .agg parts => uptoBulkAll parts + 1
  | .iface _ d => uptoBulk d + 1
  | .map entries => uptoBulkEntries entries + 1
  | .held _ => 1
def uptoBulkAll {H : Type} : List (DataW H) → Nat
  | [] => 0
  | d :: r => uptoBulk d + uptoBulkAll r
def uptoBulkEntries {H : Type} : List (Lit × DataW H) → Nat
  | [] => 0
  | x :: r => uptoBulkEntry x + uptoBulkEntries r
def uptoBulkEntry {H : Type} : Lit × DataW H → Nat
  | (.string bytes, d) => bytes.length + uptoBulk d + 1
  | (_, d) => uptoBulk d + 1
 end
def uptoSmall : (H : Type) → List (DataW H) → Bool := fun _ ds => decide (uptoBulkAll ds ≤ 1048576)
def OpenSpec.upto (s : _root_.Go.ChangeSpec) : _root_.Go.OpenSpec := { _root_.Go.OpenSpec.ofChange s with cond := some uptoSmall }

/-- 'laws.FnExactIsValidRat', WHERE WHAT IT READS IS OF BULK AT MOST 1048576: true; the input reads as it did. -/
def fnExactIsValidRatUptoRow : OpenClaim := { program := "yteefgmnjhlmbiaadoor", sum := "2b34d09f8dc1faf919f963dd4b7025086f06a11c79689b48ad89ce5209df2ca9", func := "loop.example/g00893/laws.FnExactIsValidRat", spec := "fnExactIsValidRat", inPlace := ["math/bits.Add64", "math/bits.Sub64"], named := ["loop.example/g00893/impl.unitBlock", "math/bits.divideError", "math/bits.overflowError", "math/bits.deBruijn64tab"], apart := false, laid := [("math/bits.deBruijn64tab", laid_math_bits_deBruijn64tab), ("loop.example/g00893/impl.unitBlock", laid_loop_example_g00893_impl_unitBlock)], narrowed := true }
def FnExactIsValidRatUptoSaid : Prop := fnExactIsValidRatUptoRow.holds Tryd.pinned (OpenSpec.upto fnExactIsValidRatSpec)

/-- 'laws.FnExactRatOf', WHERE WHAT IT READS IS OF BULK AT MOST 1048576: true; the input reads as it did. -/
def fnExactRatOfUptoRow : OpenClaim := { program := "yteefgmnjhlmbiaadoor", sum := "2b34d09f8dc1faf919f963dd4b7025086f06a11c79689b48ad89ce5209df2ca9", func := "loop.example/g00893/laws.FnExactRatOf", spec := "fnExactRatOf", inPlace := ["internal/abi.NoEscape", "internal/bytealg.MakeNoZero"], unfollowed := true, recurses := true, named := ["math/bits.deBruijn64tab", "math/bits.divideError", "math/bits.overflowError", "internal/strconv.uint64pow10", "math/bits.deBruijn32tab"], apart := false, laid := [("math/bits.deBruijn32tab", laid_math_bits_deBruijn32tab), ("math/bits.deBruijn64tab", laid_math_bits_deBruijn64tab), ("internal/strconv.uint64pow10", laid_internal_strconv_uint64pow10)], narrowed := true }
def FnExactRatOfUptoSaid : Prop := fnExactRatOfUptoRow.holds Tryd.pinned (OpenSpec.upto fnExactRatOfSpec)

/-- 'laws.FnExactAddRat', WHERE WHAT IT READS IS OF BULK AT MOST 1048576: true; the input reads as it did. -/
def fnExactAddRatUptoRow : OpenClaim := { program := "yteefgmnjhlmbiaadoor", sum := "2b34d09f8dc1faf919f963dd4b7025086f06a11c79689b48ad89ce5209df2ca9", func := "loop.example/g00893/laws.FnExactAddRat", spec := "fnExactAddRat", inPlace := ["math/bits.Add64", "math/bits.Sub64", "internal/abi.NoEscape", "internal/bytealg.MakeNoZero"], unfollowed := true, recurses := true, named := ["loop.example/g00893/impl.unitBlock", "math/bits.divideError", "math/bits.overflowError", "math/bits.deBruijn64tab", "internal/strconv.uint64pow10", "math/bits.deBruijn32tab"], apart := false, laid := [("math/bits.deBruijn32tab", laid_math_bits_deBruijn32tab), ("math/bits.deBruijn64tab", laid_math_bits_deBruijn64tab), ("internal/strconv.uint64pow10", laid_internal_strconv_uint64pow10), ("loop.example/g00893/impl.unitBlock", laid_loop_example_g00893_impl_unitBlock)], narrowed := true }
def FnExactAddRatUptoSaid : Prop := fnExactAddRatUptoRow.holds Tryd.pinned (OpenSpec.upto fnExactAddRatSpec)

/-- 'laws.FnExactSubRat', WHERE WHAT IT READS IS OF BULK AT MOST 1048576: true; the input reads as it did. -/
def fnExactSubRatUptoRow : OpenClaim := { program := "yteefgmnjhlmbiaadoor", sum := "2b34d09f8dc1faf919f963dd4b7025086f06a11c79689b48ad89ce5209df2ca9", func := "loop.example/g00893/laws.FnExactSubRat", spec := "fnExactSubRat", inPlace := ["math/bits.Add64", "math/bits.Sub64", "internal/abi.NoEscape", "internal/bytealg.MakeNoZero"], unfollowed := true, recurses := true, named := ["loop.example/g00893/impl.unitBlock", "math/bits.divideError", "math/bits.overflowError", "math/bits.deBruijn64tab", "internal/strconv.uint64pow10", "math/bits.deBruijn32tab"], apart := false, laid := [("math/bits.deBruijn32tab", laid_math_bits_deBruijn32tab), ("math/bits.deBruijn64tab", laid_math_bits_deBruijn64tab), ("internal/strconv.uint64pow10", laid_internal_strconv_uint64pow10), ("loop.example/g00893/impl.unitBlock", laid_loop_example_g00893_impl_unitBlock)], narrowed := true }
def FnExactSubRatUptoSaid : Prop := fnExactSubRatUptoRow.holds Tryd.pinned (OpenSpec.upto fnExactSubRatSpec)

/-- 'laws.FnExactMulRat', WHERE WHAT IT READS IS OF BULK AT MOST 1048576: true; the input reads as it did. -/
def fnExactMulRatUptoRow : OpenClaim := { program := "yteefgmnjhlmbiaadoor", sum := "2b34d09f8dc1faf919f963dd4b7025086f06a11c79689b48ad89ce5209df2ca9", func := "loop.example/g00893/laws.FnExactMulRat", spec := "fnExactMulRat", inPlace := ["math/bits.Add64", "math/bits.Sub64", "internal/abi.NoEscape", "internal/bytealg.MakeNoZero"], unfollowed := true, recurses := true, named := ["loop.example/g00893/impl.unitBlock", "math/bits.divideError", "math/bits.overflowError", "math/bits.deBruijn64tab", "internal/strconv.uint64pow10", "math/bits.deBruijn32tab"], apart := false, laid := [("math/bits.deBruijn32tab", laid_math_bits_deBruijn32tab), ("math/bits.deBruijn64tab", laid_math_bits_deBruijn64tab), ("internal/strconv.uint64pow10", laid_internal_strconv_uint64pow10), ("loop.example/g00893/impl.unitBlock", laid_loop_example_g00893_impl_unitBlock)], narrowed := true }
def FnExactMulRatUptoSaid : Prop := fnExactMulRatUptoRow.holds Tryd.pinned (OpenSpec.upto fnExactMulRatSpec)

/-- 'laws.FnExactDivRat', WHERE WHAT IT READS IS OF BULK AT MOST 1048576: true; the input reads as it did. -/
def fnExactDivRatUptoRow : OpenClaim := { program := "yteefgmnjhlmbiaadoor", sum := "2b34d09f8dc1faf919f963dd4b7025086f06a11c79689b48ad89ce5209df2ca9", func := "loop.example/g00893/laws.FnExactDivRat", spec := "fnExactDivRat", inPlace := ["math/bits.Add64", "math/bits.Sub64", "internal/abi.NoEscape", "internal/bytealg.MakeNoZero"], unfollowed := true, recurses := true, named := ["loop.example/g00893/impl.unitBlock", "math/bits.divideError", "math/bits.overflowError", "math/bits.deBruijn64tab", "internal/strconv.uint64pow10", "math/bits.deBruijn32tab"], apart := false, laid := [("math/bits.deBruijn32tab", laid_math_bits_deBruijn32tab), ("math/bits.deBruijn64tab", laid_math_bits_deBruijn64tab), ("internal/strconv.uint64pow10", laid_internal_strconv_uint64pow10), ("loop.example/g00893/impl.unitBlock", laid_loop_example_g00893_impl_unitBlock)], narrowed := true }
def FnExactDivRatUptoSaid : Prop := fnExactDivRatUptoRow.holds Tryd.pinned (OpenSpec.upto fnExactDivRatSpec)

/-- 'laws.FnExactCompareRat', WHERE WHAT IT READS IS OF BULK AT MOST 1048576: true; the input reads as it did. -/
def fnExactCompareRatUptoRow : OpenClaim := { program := "yteefgmnjhlmbiaadoor", sum := "2b34d09f8dc1faf919f963dd4b7025086f06a11c79689b48ad89ce5209df2ca9", func := "loop.example/g00893/laws.FnExactCompareRat", spec := "fnExactCompareRat", inPlace := ["math/bits.Add64", "math/bits.Sub64"], named := ["loop.example/g00893/impl.unitBlock", "math/bits.divideError", "math/bits.overflowError", "math/bits.deBruijn64tab"], apart := false, laid := [("math/bits.deBruijn64tab", laid_math_bits_deBruijn64tab), ("loop.example/g00893/impl.unitBlock", laid_loop_example_g00893_impl_unitBlock)], narrowed := true }
def FnExactCompareRatUptoSaid : Prop := fnExactCompareRatUptoRow.holds Tryd.pinned (OpenSpec.upto fnExactCompareRatSpec)

/-- 'laws.FnExactPowRat', WHERE WHAT IT READS IS OF BULK AT MOST 1048576: true; the input reads as it did. -/
def fnExactPowRatUptoRow : OpenClaim := { program := "yteefgmnjhlmbiaadoor", sum := "2b34d09f8dc1faf919f963dd4b7025086f06a11c79689b48ad89ce5209df2ca9", func := "loop.example/g00893/laws.FnExactPowRat", spec := "fnExactPowRat", inPlace := ["math/bits.Add64", "math/bits.Sub64", "internal/abi.NoEscape", "internal/bytealg.MakeNoZero"], unfollowed := true, recurses := true, named := ["loop.example/g00893/impl.unitBlock", "math/bits.divideError", "math/bits.overflowError", "math/bits.deBruijn64tab", "internal/strconv.uint64pow10", "math/bits.deBruijn32tab"], apart := false, laid := [("math/bits.deBruijn32tab", laid_math_bits_deBruijn32tab), ("math/bits.deBruijn64tab", laid_math_bits_deBruijn64tab), ("internal/strconv.uint64pow10", laid_internal_strconv_uint64pow10), ("loop.example/g00893/impl.unitBlock", laid_loop_example_g00893_impl_unitBlock)], narrowed := true }
def FnExactPowRatUptoSaid : Prop := fnExactPowRatUptoRow.holds Tryd.pinned (OpenSpec.upto fnExactPowRatSpec)

/-- 'laws.FnExactFormatRat', WHERE WHAT IT READS IS OF BULK AT MOST 1048576: true; the input reads as it did. -/
def fnExactFormatRatUptoRow : OpenClaim := { program := "yteefgmnjhlmbiaadoor", sum := "2b34d09f8dc1faf919f963dd4b7025086f06a11c79689b48ad89ce5209df2ca9", func := "loop.example/g00893/laws.FnExactFormatRat", spec := "fnExactFormatRat", inPlace := ["math/bits.Add64", "math/bits.Sub64", "internal/abi.NoEscape"], named := ["loop.example/g00893/impl.unitBlock", "math/bits.divideError", "math/bits.overflowError", "math/bits.deBruijn64tab"], apart := false, laid := [("math/bits.deBruijn64tab", laid_math_bits_deBruijn64tab), ("loop.example/g00893/impl.unitBlock", laid_loop_example_g00893_impl_unitBlock)], narrowed := true }
def FnExactFormatRatUptoSaid : Prop := fnExactFormatRatUptoRow.holds Tryd.pinned (OpenSpec.upto fnExactFormatRatSpec)

/-- 'laws.FnExactParseRat', WHERE WHAT IT READS IS OF BULK AT MOST 1048576: true; the input reads as it did. -/
def fnExactParseRatUptoRow : OpenClaim := { program := "yteefgmnjhlmbiaadoor", sum := "2b34d09f8dc1faf919f963dd4b7025086f06a11c79689b48ad89ce5209df2ca9", func := "loop.example/g00893/laws.FnExactParseRat", spec := "fnExactParseRat", inPlace := ["internal/bytealg.IndexByteString", "internal/bytealg.IndexString", "math/bits.Add64", "math/bits.Sub64"], named := ["internal/bytealg.MaxLen", "loop.example/g00893/impl.unitBlock", "math/bits.divideError", "math/bits.overflowError", "math/bits.deBruijn64tab"], apart := false, laid := [("math/bits.deBruijn64tab", laid_math_bits_deBruijn64tab), ("loop.example/g00893/impl.unitBlock", laid_loop_example_g00893_impl_unitBlock)], narrowed := true }
def FnExactParseRatUptoSaid : Prop := fnExactParseRatUptoRow.holds Tryd.pinned (OpenSpec.upto fnExactParseRatSpec)

/-- 'laws.FnExactDecimalOf', WHERE WHAT IT READS IS OF BULK AT MOST 1048576: true; the input reads as it did. -/
def fnExactDecimalOfUptoRow : OpenClaim := { program := "yteefgmnjhlmbiaadoor", sum := "2b34d09f8dc1faf919f963dd4b7025086f06a11c79689b48ad89ce5209df2ca9", func := "loop.example/g00893/laws.FnExactDecimalOf", spec := "fnExactDecimalOf", inPlace := ["math/bits.Add64", "math/bits.Sub64", "internal/abi.NoEscape", "internal/bytealg.MakeNoZero"], unfollowed := true, recurses := true, named := ["loop.example/g00893/impl.unitBlock", "math/bits.divideError", "math/bits.overflowError", "math/bits.deBruijn64tab", "internal/strconv.uint64pow10", "math/bits.deBruijn32tab"], apart := false, laid := [("math/bits.deBruijn32tab", laid_math_bits_deBruijn32tab), ("math/bits.deBruijn64tab", laid_math_bits_deBruijn64tab), ("internal/strconv.uint64pow10", laid_internal_strconv_uint64pow10), ("loop.example/g00893/impl.unitBlock", laid_loop_example_g00893_impl_unitBlock)], narrowed := true }
def FnExactDecimalOfUptoSaid : Prop := fnExactDecimalOfUptoRow.holds Tryd.pinned (OpenSpec.upto fnExactDecimalOfSpec)

end Rows
end Go.Proofs.YteefgmnjhlmbiaaDoor
