/-
  No cell of these rows narrows 'for every input' (looked for: loops, veiled, ifaces, maps, wideKeys, modest, calm, conditions, laid).
  DERIVED. THE GIVEN ROWS OF THIS SEAT. 7 by the template 'for every input the law returns true; each argument reads behind the call as it read before'; 0 by the template 'total and deterministic' (their statements: YtmojckplaplpfaaTotals.lean).
  GIVEN WITH THE SEED: the statements are not yours to turn. If you find one false, say at which input.
  Laid BY PROGRAM, IN A SANDBOX (cutbox-rows.mjs): the forced cells as the released guide's own fill.sh prints them over the translation 14bbdcb050c1a904… (all of the seat's roots in one cut). By AI agents, Wed Nov 11 2026. No macro, syntax, notation, axiom, sorry.
-/
import Derived.Test.YtmojckplaplpfaaChecked
import GoSem.Claim
import GoSem.ClaimJoined
import GoSem.ClaimMapViews
import Derived.JoinedTies
import Derived.KernelRfl
namespace Go.Proofs.Ytmojckplaplpfaa
/- THE CELL 'sum', in the pinned program and in every row, IS THE sha256 OF THE DUMP (.gsa) THAT YtmojckplaplpfaaProg.lean LOADS. Nothing in Lean hashes anything: it is a label: what it is worth is what the hold of that sum in a sandbox is worth. -/
noncomputable def Try.pinned : Pinned := { name := "ytmojckplaplpfaa", sum := "14bbdcb050c1a9042831add33e77f2e66ded1908b8e7b56c945e545cd615464e", checked := Try.checked }
namespace Rows
def none {H : Type} : Left H := { results := [], args := [] }

/-- 'laws.FnExactIsValidProgram': WHATEVER THE INPUT: true; the input reads as it did. -/
def fnExactIsValidProgramSpec : ChangeSpec := { name := "fnExactIsValidProgram", fn := fun _ => fun
  | [d] => { results := [.lit (.bool true)], args := [d] }
  | _ => none }
def fnExactIsValidProgramRow : OpenClaim := { program := "ytmojckplaplpfaa", sum := "14bbdcb050c1a9042831add33e77f2e66ded1908b8e7b56c945e545cd615464e", func := "loop.example/g00893/laws.FnExactIsValidProgram", spec := "fnExactIsValidProgram", apart := false }
def FnExactIsValidProgramSaid : Prop := fnExactIsValidProgramRow.holds Try.pinned (OpenSpec.ofChange fnExactIsValidProgramSpec)

/-- ITS FALSE NEIGHBOUR: 'it returns false'. Refute it at one input. -/
def fnExactIsValidProgramWrong : ChangeSpec := { name := "fnExactIsValidProgram", fn := fun _ => fun
  | [d] => { results := [.lit (.bool false)], args := [d] }
  | _ => none }
def FnExactIsValidProgramWrongFalsely : Prop := fnExactIsValidProgramRow.holds Try.pinned (OpenSpec.ofChange fnExactIsValidProgramWrong)

/-- 'laws.FnExactEvalExpr': WHATEVER THE INPUT: true; the input reads as it did. -/
def fnExactEvalExprSpec : ChangeSpec := { name := "fnExactEvalExpr", fn := fun _ => fun
  | [d1, d2, d3] => { results := [.lit (.bool true)], args := [d1, d2, d3] }
  | _ => none }
def fnExactEvalExprRow : OpenClaim := { program := "ytmojckplaplpfaa", sum := "14bbdcb050c1a9042831add33e77f2e66ded1908b8e7b56c945e545cd615464e", func := "loop.example/g00893/laws.FnExactEvalExpr", spec := "fnExactEvalExpr", apart := false }
def FnExactEvalExprSaid : Prop := fnExactEvalExprRow.holds Try.pinned (OpenSpec.ofChange fnExactEvalExprSpec)

/-- ITS FALSE NEIGHBOUR: 'it returns false'. Refute it at one input. -/
def fnExactEvalExprWrong : ChangeSpec := { name := "fnExactEvalExpr", fn := fun _ => fun
  | [d1, d2, d3] => { results := [.lit (.bool false)], args := [d1, d2, d3] }
  | _ => none }
def FnExactEvalExprWrongFalsely : Prop := fnExactEvalExprRow.holds Try.pinned (OpenSpec.ofChange fnExactEvalExprWrong)

/-- 'laws.FnExactVarsOfExpr': WHATEVER THE INPUT: true; the input reads as it did. -/
def fnExactVarsOfExprSpec : ChangeSpec := { name := "fnExactVarsOfExpr", fn := fun _ => fun
  | [d1, d2] => { results := [.lit (.bool true)], args := [d1, d2] }
  | _ => none }
def fnExactVarsOfExprRow : OpenClaim := { program := "ytmojckplaplpfaa", sum := "14bbdcb050c1a9042831add33e77f2e66ded1908b8e7b56c945e545cd615464e", func := "loop.example/g00893/laws.FnExactVarsOfExpr", spec := "fnExactVarsOfExpr", unfollowed := true, recurses := true, apart := false }
def FnExactVarsOfExprSaid : Prop := fnExactVarsOfExprRow.holds Try.pinned (OpenSpec.ofChange fnExactVarsOfExprSpec)

/-- ITS FALSE NEIGHBOUR: 'it returns false'. Refute it at one input. -/
def fnExactVarsOfExprWrong : ChangeSpec := { name := "fnExactVarsOfExpr", fn := fun _ => fun
  | [d1, d2] => { results := [.lit (.bool false)], args := [d1, d2] }
  | _ => none }
def FnExactVarsOfExprWrongFalsely : Prop := fnExactVarsOfExprRow.holds Try.pinned (OpenSpec.ofChange fnExactVarsOfExprWrong)

/-- 'laws.FnExactAssignedVars': WHATEVER THE INPUT: true; the input reads as it did. -/
def fnExactAssignedVarsSpec : ChangeSpec := { name := "fnExactAssignedVars", fn := fun _ => fun
  | [d1, d2] => { results := [.lit (.bool true)], args := [d1, d2] }
  | _ => none }
def fnExactAssignedVarsRow : OpenClaim := { program := "ytmojckplaplpfaa", sum := "14bbdcb050c1a9042831add33e77f2e66ded1908b8e7b56c945e545cd615464e", func := "loop.example/g00893/laws.FnExactAssignedVars", spec := "fnExactAssignedVars", recurses := true, apart := false }
def FnExactAssignedVarsSaid : Prop := fnExactAssignedVarsRow.holds Try.pinned (OpenSpec.ofChange fnExactAssignedVarsSpec)

/-- ITS FALSE NEIGHBOUR: 'it returns false'. Refute it at one input. -/
def fnExactAssignedVarsWrong : ChangeSpec := { name := "fnExactAssignedVars", fn := fun _ => fun
  | [d1, d2] => { results := [.lit (.bool false)], args := [d1, d2] }
  | _ => none }
def FnExactAssignedVarsWrongFalsely : Prop := fnExactAssignedVarsRow.holds Try.pinned (OpenSpec.ofChange fnExactAssignedVarsWrong)

/-- 'laws.FnExactCountPaths': WHATEVER THE INPUT: true; the input reads as it did. -/
def fnExactCountPathsSpec : ChangeSpec := { name := "fnExactCountPaths", fn := fun _ => fun
  | [d] => { results := [.lit (.bool true)], args := [d] }
  | _ => none }
def fnExactCountPathsRow : OpenClaim := { program := "ytmojckplaplpfaa", sum := "14bbdcb050c1a9042831add33e77f2e66ded1908b8e7b56c945e545cd615464e", func := "loop.example/g00893/laws.FnExactCountPaths", spec := "fnExactCountPaths", recurses := true, apart := false }
def FnExactCountPathsSaid : Prop := fnExactCountPathsRow.holds Try.pinned (OpenSpec.ofChange fnExactCountPathsSpec)

/-- ITS FALSE NEIGHBOUR: 'it returns false'. Refute it at one input. -/
def fnExactCountPathsWrong : ChangeSpec := { name := "fnExactCountPaths", fn := fun _ => fun
  | [d] => { results := [.lit (.bool false)], args := [d] }
  | _ => none }
def FnExactCountPathsWrongFalsely : Prop := fnExactCountPathsRow.holds Try.pinned (OpenSpec.ofChange fnExactCountPathsWrong)

/-- 'laws.FnExactIsStraightLine': WHATEVER THE INPUT: true; the input reads as it did. -/
def fnExactIsStraightLineSpec : ChangeSpec := { name := "fnExactIsStraightLine", fn := fun _ => fun
  | [d] => { results := [.lit (.bool true)], args := [d] }
  | _ => none }
def fnExactIsStraightLineRow : OpenClaim := { program := "ytmojckplaplpfaa", sum := "14bbdcb050c1a9042831add33e77f2e66ded1908b8e7b56c945e545cd615464e", func := "loop.example/g00893/laws.FnExactIsStraightLine", spec := "fnExactIsStraightLine", unfollowed := true, recurses := true, apart := false }
def FnExactIsStraightLineSaid : Prop := fnExactIsStraightLineRow.holds Try.pinned (OpenSpec.ofChange fnExactIsStraightLineSpec)

/-- ITS FALSE NEIGHBOUR: 'it returns false'. Refute it at one input. -/
def fnExactIsStraightLineWrong : ChangeSpec := { name := "fnExactIsStraightLine", fn := fun _ => fun
  | [d] => { results := [.lit (.bool false)], args := [d] }
  | _ => none }
def FnExactIsStraightLineWrongFalsely : Prop := fnExactIsStraightLineRow.holds Try.pinned (OpenSpec.ofChange fnExactIsStraightLineWrong)

/-- 'laws.FnExactEqualPrograms': WHATEVER THE INPUT: true; the input reads as it did. -/
def fnExactEqualProgramsSpec : ChangeSpec := { name := "fnExactEqualPrograms", fn := fun _ => fun
  | [d1, d2] => { results := [.lit (.bool true)], args := [d1, d2] }
  | _ => none }
def fnExactEqualProgramsRow : OpenClaim := { program := "ytmojckplaplpfaa", sum := "14bbdcb050c1a9042831add33e77f2e66ded1908b8e7b56c945e545cd615464e", func := "loop.example/g00893/laws.FnExactEqualPrograms", spec := "fnExactEqualPrograms", unfollowed := true, recurses := true, apart := false }
def FnExactEqualProgramsSaid : Prop := fnExactEqualProgramsRow.holds Try.pinned (OpenSpec.ofChange fnExactEqualProgramsSpec)

/-- ITS FALSE NEIGHBOUR: 'it returns false'. Refute it at one input. -/
def fnExactEqualProgramsWrong : ChangeSpec := { name := "fnExactEqualPrograms", fn := fun _ => fun
  | [d1, d2] => { results := [.lit (.bool false)], args := [d1, d2] }
  | _ => none }
def FnExactEqualProgramsWrongFalsely : Prop := fnExactEqualProgramsRow.holds Try.pinned (OpenSpec.ofChange fnExactEqualProgramsWrong)

/- THE SECOND FORM. 'bulk': how many values and letters a reading holds, each counted each time it is reached (what is shared counts as often as it is met; a slice's spare places count too). A statement '..UptoSaid' is the law's where the arguments, and the package variables that the reading takes, are together of bulk at most 1048576: NARROWER than '..Said'. Prove '..Said' where nothing that the law and all that it calls make is longer than what came in: it says more and counts as full. Else prove '..UptoSaid'. A law counts once. -/
mutual
def uptoBulk {H : Type} : DataW H → Nat
  | .lit (.string bytes) => bytes.length + 1
  | .lit _ => 1
  | .nil => 1
  | .ptr d => uptoBulk d + 1
  | .slice elems spare => uptoBulkAll elems + uptoBulkAll spare + 1
  | .agg parts => uptoBulkAll parts + 1
  | .iface _ d => uptoBulk d + 1
  | .map entries => uptoBulkEntries entries + 1
  | .held _ => 1
def uptoBulkAll {H : Type} : List (DataW H) → Nat
  | [] => 0
  | d :: r => uptoBulk d + uptoBulkAll r
def uptoBulkEntries {H : Type} : List (Lit × DataW H) → Nat
  | [] => 0
  | x :: r => uptoBulkEntry x + uptoBulkEntries r
def uptoBulkEntry {H : Type} : Lit × DataW H → Nat
  | (.string bytes, d) => bytes.length + uptoBulk d + 1
  | (_, d) => uptoBulk d + 1
 end
def uptoSmall : (H : Type) → List (DataW H) → Bool := fun _ ds => decide (uptoBulkAll ds ≤ 1048576)
def OpenSpec.upto (s : _root_.Go.ChangeSpec) : _root_.Go.OpenSpec := { _root_.Go.OpenSpec.ofChange s with cond := some uptoSmall }

/-- 'laws.FnExactIsValidProgram', WHERE WHAT IT READS IS OF BULK AT MOST 1048576: true; the input reads as it did. -/
def fnExactIsValidProgramUptoRow : OpenClaim := { program := "ytmojckplaplpfaa", sum := "14bbdcb050c1a9042831add33e77f2e66ded1908b8e7b56c945e545cd615464e", func := "loop.example/g00893/laws.FnExactIsValidProgram", spec := "fnExactIsValidProgram", apart := false, narrowed := true }
def FnExactIsValidProgramUptoSaid : Prop := fnExactIsValidProgramUptoRow.holds Try.pinned (OpenSpec.upto fnExactIsValidProgramSpec)

/-- 'laws.FnExactEvalExpr', WHERE WHAT IT READS IS OF BULK AT MOST 1048576: true; the input reads as it did. -/
def fnExactEvalExprUptoRow : OpenClaim := { program := "ytmojckplaplpfaa", sum := "14bbdcb050c1a9042831add33e77f2e66ded1908b8e7b56c945e545cd615464e", func := "loop.example/g00893/laws.FnExactEvalExpr", spec := "fnExactEvalExpr", apart := false, narrowed := true }
def FnExactEvalExprUptoSaid : Prop := fnExactEvalExprUptoRow.holds Try.pinned (OpenSpec.upto fnExactEvalExprSpec)

/-- 'laws.FnExactVarsOfExpr', WHERE WHAT IT READS IS OF BULK AT MOST 1048576: true; the input reads as it did. -/
def fnExactVarsOfExprUptoRow : OpenClaim := { program := "ytmojckplaplpfaa", sum := "14bbdcb050c1a9042831add33e77f2e66ded1908b8e7b56c945e545cd615464e", func := "loop.example/g00893/laws.FnExactVarsOfExpr", spec := "fnExactVarsOfExpr", unfollowed := true, recurses := true, apart := false, narrowed := true }
def FnExactVarsOfExprUptoSaid : Prop := fnExactVarsOfExprUptoRow.holds Try.pinned (OpenSpec.upto fnExactVarsOfExprSpec)

/-- 'laws.FnExactAssignedVars', WHERE WHAT IT READS IS OF BULK AT MOST 1048576: true; the input reads as it did. -/
def fnExactAssignedVarsUptoRow : OpenClaim := { program := "ytmojckplaplpfaa", sum := "14bbdcb050c1a9042831add33e77f2e66ded1908b8e7b56c945e545cd615464e", func := "loop.example/g00893/laws.FnExactAssignedVars", spec := "fnExactAssignedVars", recurses := true, apart := false, narrowed := true }
def FnExactAssignedVarsUptoSaid : Prop := fnExactAssignedVarsUptoRow.holds Try.pinned (OpenSpec.upto fnExactAssignedVarsSpec)

/-- 'laws.FnExactCountPaths', WHERE WHAT IT READS IS OF BULK AT MOST 1048576: true; the input reads as it did. -/
def fnExactCountPathsUptoRow : OpenClaim := { program := "ytmojckplaplpfaa", sum := "14bbdcb050c1a9042831add33e77f2e66ded1908b8e7b56c945e545cd615464e", func := "loop.example/g00893/laws.FnExactCountPaths", spec := "fnExactCountPaths", recurses := true, apart := false, narrowed := true }
def FnExactCountPathsUptoSaid : Prop := fnExactCountPathsUptoRow.holds Try.pinned (OpenSpec.upto fnExactCountPathsSpec)

/-- 'laws.FnExactIsStraightLine', WHERE WHAT IT READS IS OF BULK AT MOST 1048576: true; the input reads as it did. -/
def fnExactIsStraightLineUptoRow : OpenClaim := { program := "ytmojckplaplpfaa", sum := "14bbdcb050c1a9042831add33e77f2e66ded1908b8e7b56c945e545cd615464e", func := "loop.example/g00893/laws.FnExactIsStraightLine", spec := "fnExactIsStraightLine", unfollowed := true, recurses := true, apart := false, narrowed := true }
def FnExactIsStraightLineUptoSaid : Prop := fnExactIsStraightLineUptoRow.holds Try.pinned (OpenSpec.upto fnExactIsStraightLineSpec)

/-- 'laws.FnExactEqualPrograms', WHERE WHAT IT READS IS OF BULK AT MOST 1048576: true; the input reads as it did. -/
def fnExactEqualProgramsUptoRow : OpenClaim := { program := "ytmojckplaplpfaa", sum := "14bbdcb050c1a9042831add33e77f2e66ded1908b8e7b56c945e545cd615464e", func := "loop.example/g00893/laws.FnExactEqualPrograms", spec := "fnExactEqualPrograms", unfollowed := true, recurses := true, apart := false, narrowed := true }
def FnExactEqualProgramsUptoSaid : Prop := fnExactEqualProgramsUptoRow.holds Try.pinned (OpenSpec.upto fnExactEqualProgramsSpec)

end Rows
end Go.Proofs.Ytmojckplaplpfaa
