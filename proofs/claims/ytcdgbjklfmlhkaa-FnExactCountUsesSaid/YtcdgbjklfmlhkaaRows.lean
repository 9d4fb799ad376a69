/-
  No cell of these rows narrows 'for every input' (looked for: loops, veiled, ifaces, maps, wideKeys, modest, calm, conditions, laid).
  DERIVED. THE GIVEN ROWS OF THIS SEAT. 9 by the template 'for every input the law returns true; each argument reads behind the call as it read before'; 0 by the template 'total and deterministic' (their statements: YtcdgbjklfmlhkaaTotals.lean).
  GIVEN WITH THE SEED: the statements are not yours to turn. If you find one false, say at which input.
  Laid BY PROGRAM, IN A SANDBOX (cutbox-rows.mjs): the forced cells as the released guide's own fill.sh prints them over the translation cfa0b6f8767a321c… (all of the seat's roots in one cut). By AI agents, Wed Nov 11 2026. No macro, syntax, notation, axiom, sorry.
-/
import Derived.Test.YtcdgbjklfmlhkaaChecked
import GoSem.Claim
import GoSem.ClaimJoined
import GoSem.ClaimMapViews
import Derived.JoinedTies
import Derived.KernelRfl
namespace Go.Proofs.Ytcdgbjklfmlhkaa
/- THE CELL 'sum', in the pinned program and in every row, IS THE sha256 OF THE DUMP (.gsa) THAT YtcdgbjklfmlhkaaProg.lean LOADS. Nothing in Lean hashes anything: it is a label: what it is worth is what the hold of that sum in a sandbox is worth. -/
noncomputable def Try.pinned : Pinned := { name := "ytcdgbjklfmlhkaa", sum := "cfa0b6f8767a321cc990558d9968960397ddb5a20818711f337c218400a451d3", checked := Try.checked }
namespace Rows
def none {H : Type} : Left H := { results := [], args := [] }

/-- 'laws.FnExactEvalExpr': WHATEVER THE INPUT: true; the input reads as it did. -/
def fnExactEvalExprSpec : ChangeSpec := { name := "fnExactEvalExpr", fn := fun _ => fun
  | [d1, d2, d3] => { results := [.lit (.bool true)], args := [d1, d2, d3] }
  | _ => none }
def fnExactEvalExprRow : OpenClaim := { program := "ytcdgbjklfmlhkaa", sum := "cfa0b6f8767a321cc990558d9968960397ddb5a20818711f337c218400a451d3", func := "loop.example/g00893/laws.FnExactEvalExpr", spec := "fnExactEvalExpr", apart := false }
def FnExactEvalExprSaid : Prop := fnExactEvalExprRow.holds Try.pinned (OpenSpec.ofChange fnExactEvalExprSpec)

/-- ITS FALSE NEIGHBOUR: 'it returns false'. Refute it at one input. -/
def fnExactEvalExprWrong : ChangeSpec := { name := "fnExactEvalExpr", fn := fun _ => fun
  | [d1, d2, d3] => { results := [.lit (.bool false)], args := [d1, d2, d3] }
  | _ => none }
def FnExactEvalExprWrongFalsely : Prop := fnExactEvalExprRow.holds Try.pinned (OpenSpec.ofChange fnExactEvalExprWrong)

/-- 'laws.FnExactVarsOfExpr': WHATEVER THE INPUT: true; the input reads as it did. -/
def fnExactVarsOfExprSpec : ChangeSpec := { name := "fnExactVarsOfExpr", fn := fun _ => fun
  | [d1, d2] => { results := [.lit (.bool true)], args := [d1, d2] }
  | _ => none }
def fnExactVarsOfExprRow : OpenClaim := { program := "ytcdgbjklfmlhkaa", sum := "cfa0b6f8767a321cc990558d9968960397ddb5a20818711f337c218400a451d3", func := "loop.example/g00893/laws.FnExactVarsOfExpr", spec := "fnExactVarsOfExpr", unfollowed := true, recurses := true, apart := false }
def FnExactVarsOfExprSaid : Prop := fnExactVarsOfExprRow.holds Try.pinned (OpenSpec.ofChange fnExactVarsOfExprSpec)

/-- ITS FALSE NEIGHBOUR: 'it returns false'. Refute it at one input. -/
def fnExactVarsOfExprWrong : ChangeSpec := { name := "fnExactVarsOfExpr", fn := fun _ => fun
  | [d1, d2] => { results := [.lit (.bool false)], args := [d1, d2] }
  | _ => none }
def FnExactVarsOfExprWrongFalsely : Prop := fnExactVarsOfExprRow.holds Try.pinned (OpenSpec.ofChange fnExactVarsOfExprWrong)

/-- 'laws.FnExactAssignedVars': WHATEVER THE INPUT: true; the input reads as it did. -/
def fnExactAssignedVarsSpec : ChangeSpec := { name := "fnExactAssignedVars", fn := fun _ => fun
  | [d1, d2] => { results := [.lit (.bool true)], args := [d1, d2] }
  | _ => none }
def fnExactAssignedVarsRow : OpenClaim := { program := "ytcdgbjklfmlhkaa", sum := "cfa0b6f8767a321cc990558d9968960397ddb5a20818711f337c218400a451d3", func := "loop.example/g00893/laws.FnExactAssignedVars", spec := "fnExactAssignedVars", recurses := true, apart := false }
def FnExactAssignedVarsSaid : Prop := fnExactAssignedVarsRow.holds Try.pinned (OpenSpec.ofChange fnExactAssignedVarsSpec)

/-- ITS FALSE NEIGHBOUR: 'it returns false'. Refute it at one input. -/
def fnExactAssignedVarsWrong : ChangeSpec := { name := "fnExactAssignedVars", fn := fun _ => fun
  | [d1, d2] => { results := [.lit (.bool false)], args := [d1, d2] }
  | _ => none }
def FnExactAssignedVarsWrongFalsely : Prop := fnExactAssignedVarsRow.holds Try.pinned (OpenSpec.ofChange fnExactAssignedVarsWrong)

/-- 'laws.FnExactCountPaths': WHATEVER THE INPUT: true; the input reads as it did. -/
def fnExactCountPathsSpec : ChangeSpec := { name := "fnExactCountPaths", fn := fun _ => fun
  | [d] => { results := [.lit (.bool true)], args := [d] }
  | _ => none }
def fnExactCountPathsRow : OpenClaim := { program := "ytcdgbjklfmlhkaa", sum := "cfa0b6f8767a321cc990558d9968960397ddb5a20818711f337c218400a451d3", func := "loop.example/g00893/laws.FnExactCountPaths", spec := "fnExactCountPaths", recurses := true, apart := false }
def FnExactCountPathsSaid : Prop := fnExactCountPathsRow.holds Try.pinned (OpenSpec.ofChange fnExactCountPathsSpec)

/-- ITS FALSE NEIGHBOUR: 'it returns false'. Refute it at one input. -/
def fnExactCountPathsWrong : ChangeSpec := { name := "fnExactCountPaths", fn := fun _ => fun
  | [d] => { results := [.lit (.bool false)], args := [d] }
  | _ => none }
def FnExactCountPathsWrongFalsely : Prop := fnExactCountPathsRow.holds Try.pinned (OpenSpec.ofChange fnExactCountPathsWrong)

/-- 'laws.FnExactRangeOf': WHATEVER THE INPUT: true; the input reads as it did. -/
def fnExactRangeOfSpec : ChangeSpec := { name := "fnExactRangeOf", fn := fun _ => fun
  | [d1, d2] => { results := [.lit (.bool true)], args := [d1, d2] }
  | _ => none }
def fnExactRangeOfRow : OpenClaim := { program := "ytcdgbjklfmlhkaa", sum := "cfa0b6f8767a321cc990558d9968960397ddb5a20818711f337c218400a451d3", func := "loop.example/g00893/laws.FnExactRangeOf", spec := "fnExactRangeOf", apart := false }
def FnExactRangeOfSaid : Prop := fnExactRangeOfRow.holds Try.pinned (OpenSpec.ofChange fnExactRangeOfSpec)

/-- ITS FALSE NEIGHBOUR: 'it returns false'. Refute it at one input. -/
def fnExactRangeOfWrong : ChangeSpec := { name := "fnExactRangeOf", fn := fun _ => fun
  | [d1, d2] => { results := [.lit (.bool false)], args := [d1, d2] }
  | _ => none }
def FnExactRangeOfWrongFalsely : Prop := fnExactRangeOfRow.holds Try.pinned (OpenSpec.ofChange fnExactRangeOfWrong)

/-- 'laws.FnExactCountUses': WHATEVER THE INPUT: true; the input reads as it did. -/
def fnExactCountUsesSpec : ChangeSpec := { name := "fnExactCountUses", fn := fun _ => fun
  | [d1, d2] => { results := [.lit (.bool true)], args := [d1, d2] }
  | _ => none }
def fnExactCountUsesRow : OpenClaim := { program := "ytcdgbjklfmlhkaa", sum := "cfa0b6f8767a321cc990558d9968960397ddb5a20818711f337c218400a451d3", func := "loop.example/g00893/laws.FnExactCountUses", spec := "fnExactCountUses", apart := false }
def FnExactCountUsesSaid : Prop := fnExactCountUsesRow.holds Try.pinned (OpenSpec.ofChange fnExactCountUsesSpec)

/-- ITS FALSE NEIGHBOUR: 'it returns false'. Refute it at one input. -/
def fnExactCountUsesWrong : ChangeSpec := { name := "fnExactCountUses", fn := fun _ => fun
  | [d1, d2] => { results := [.lit (.bool false)], args := [d1, d2] }
  | _ => none }
def FnExactCountUsesWrongFalsely : Prop := fnExactCountUsesRow.holds Try.pinned (OpenSpec.ofChange fnExactCountUsesWrong)

/-- 'laws.FnExactUnreadVars': WHATEVER THE INPUT: true; the input reads as it did. -/
def fnExactUnreadVarsSpec : ChangeSpec := { name := "fnExactUnreadVars", fn := fun _ => fun
  | [d] => { results := [.lit (.bool true)], args := [d] }
  | _ => none }
def fnExactUnreadVarsRow : OpenClaim := { program := "ytcdgbjklfmlhkaa", sum := "cfa0b6f8767a321cc990558d9968960397ddb5a20818711f337c218400a451d3", func := "loop.example/g00893/laws.FnExactUnreadVars", spec := "fnExactUnreadVars", unfollowed := true, recurses := true, apart := false }
def FnExactUnreadVarsSaid : Prop := fnExactUnreadVarsRow.holds Try.pinned (OpenSpec.ofChange fnExactUnreadVarsSpec)

/-- ITS FALSE NEIGHBOUR: 'it returns false'. Refute it at one input. -/
def fnExactUnreadVarsWrong : ChangeSpec := { name := "fnExactUnreadVars", fn := fun _ => fun
  | [d] => { results := [.lit (.bool false)], args := [d] }
  | _ => none }
def FnExactUnreadVarsWrongFalsely : Prop := fnExactUnreadVarsRow.holds Try.pinned (OpenSpec.ofChange fnExactUnreadVarsWrong)

/-- 'laws.FnExactIsUnrolled': WHATEVER THE INPUT: true; the input reads as it did. -/
def fnExactIsUnrolledSpec : ChangeSpec := { name := "fnExactIsUnrolled", fn := fun _ => fun
  | [d] => { results := [.lit (.bool true)], args := [d] }
  | _ => none }
def fnExactIsUnrolledRow : OpenClaim := { program := "ytcdgbjklfmlhkaa", sum := "cfa0b6f8767a321cc990558d9968960397ddb5a20818711f337c218400a451d3", func := "loop.example/g00893/laws.FnExactIsUnrolled", spec := "fnExactIsUnrolled", unfollowed := true, recurses := true, apart := false }
def FnExactIsUnrolledSaid : Prop := fnExactIsUnrolledRow.holds Try.pinned (OpenSpec.ofChange fnExactIsUnrolledSpec)

/-- ITS FALSE NEIGHBOUR: 'it returns false'. Refute it at one input. -/
def fnExactIsUnrolledWrong : ChangeSpec := { name := "fnExactIsUnrolled", fn := fun _ => fun
  | [d] => { results := [.lit (.bool false)], args := [d] }
  | _ => none }
def FnExactIsUnrolledWrongFalsely : Prop := fnExactIsUnrolledRow.holds Try.pinned (OpenSpec.ofChange fnExactIsUnrolledWrong)

/-- 'laws.FnExactCallGraph': WHATEVER THE INPUT: true; the input reads as it did. -/
def fnExactCallGraphSpec : ChangeSpec := { name := "fnExactCallGraph", fn := fun _ => fun
  | [d] => { results := [.lit (.bool true)], args := [d] }
  | _ => none }
def fnExactCallGraphRow : OpenClaim := { program := "ytcdgbjklfmlhkaa", sum := "cfa0b6f8767a321cc990558d9968960397ddb5a20818711f337c218400a451d3", func := "loop.example/g00893/laws.FnExactCallGraph", spec := "fnExactCallGraph", recurses := true, apart := false }
def FnExactCallGraphSaid : Prop := fnExactCallGraphRow.holds Try.pinned (OpenSpec.ofChange fnExactCallGraphSpec)

/-- ITS FALSE NEIGHBOUR: 'it returns false'. Refute it at one input. -/
def fnExactCallGraphWrong : ChangeSpec := { name := "fnExactCallGraph", fn := fun _ => fun
  | [d] => { results := [.lit (.bool false)], args := [d] }
  | _ => none }
def FnExactCallGraphWrongFalsely : Prop := fnExactCallGraphRow.holds Try.pinned (OpenSpec.ofChange fnExactCallGraphWrong)

/- THE SECOND FORM. 'bulk': how many values and letters a reading holds, each counted each time it is reached (what is shared counts as often as it is met; a slice's spare places count too). A statement '..UptoSaid' is the law's where the arguments, and the package variables that the reading takes, are together of bulk at most 1048576: NARROWER than '..Said'. Prove '..Said' where nothing that the law and all that it calls make is longer than what came in: it says more and counts as full. Else prove '..UptoSaid'. A law counts once. -/
mutual
def uptoBulk {H : Type} : DataW H → Nat
  | .lit (.string bytes) => bytes.length + 1
  | .lit _ => 1
  | .nil => 1
  | .ptr d => uptoBulk d + 1
  | .slice elems spare => uptoBulkAll elems + uptoBulkAll spare + 1
  | .agg parts => uptoBulkAll parts + 1
  | .iface _ d => uptoBulk d + 1
  | .map entries => uptoBulkEntries entries + 1
  | .held _ => 1
def uptoBulkAll {H : Type} : List (DataW H) → Nat
  | [] => 0
  | d :: r => uptoBulk d + uptoBulkAll r
def uptoBulkEntries {H : Type} : List (Lit × DataW H) → Nat
  | [] => 0
  | x :: r => uptoBulkEntry x + uptoBulkEntries r
def uptoBulkEntry {H : Type} : Lit × DataW H → Nat
  | (.string bytes, d) => bytes.length + uptoBulk d + 1
  | (_, d) => uptoBulk d + 1
 end
def uptoSmall : (H : Type) → List (DataW H) → Bool := fun _ ds => decide (uptoBulkAll ds ≤ 1048576)
def OpenSpec.upto (s : _root_.Go.ChangeSpec) : _root_.Go.OpenSpec := { _root_.Go.OpenSpec.ofChange s with cond := some uptoSmall }

/-- 'laws.FnExactEvalExpr', WHERE WHAT IT READS IS OF BULK AT MOST 1048576: true; the input reads as it did. -/
def fnExactEvalExprUptoRow : OpenClaim := { program := "ytcdgbjklfmlhkaa", sum := "cfa0b6f8767a321cc990558d9968960397ddb5a20818711f337c218400a451d3", func := "loop.example/g00893/laws.FnExactEvalExpr", spec := "fnExactEvalExpr", apart := false, narrowed := true }
def FnExactEvalExprUptoSaid : Prop := fnExactEvalExprUptoRow.holds Try.pinned (OpenSpec.upto fnExactEvalExprSpec)

/-- 'laws.FnExactVarsOfExpr', WHERE WHAT IT READS IS OF BULK AT MOST 1048576: true; the input reads as it did. -/
def fnExactVarsOfExprUptoRow : OpenClaim := { program := "ytcdgbjklfmlhkaa", sum := "cfa0b6f8767a321cc990558d9968960397ddb5a20818711f337c218400a451d3", func := "loop.example/g00893/laws.FnExactVarsOfExpr", spec := "fnExactVarsOfExpr", unfollowed := true, recurses := true, apart := false, narrowed := true }
def FnExactVarsOfExprUptoSaid : Prop := fnExactVarsOfExprUptoRow.holds Try.pinned (OpenSpec.upto fnExactVarsOfExprSpec)

/-- 'laws.FnExactAssignedVars', WHERE WHAT IT READS IS OF BULK AT MOST 1048576: true; the input reads as it did. -/
def fnExactAssignedVarsUptoRow : OpenClaim := { program := "ytcdgbjklfmlhkaa", sum := "cfa0b6f8767a321cc990558d9968960397ddb5a20818711f337c218400a451d3", func := "loop.example/g00893/laws.FnExactAssignedVars", spec := "fnExactAssignedVars", recurses := true, apart := false, narrowed := true }
def FnExactAssignedVarsUptoSaid : Prop := fnExactAssignedVarsUptoRow.holds Try.pinned (OpenSpec.upto fnExactAssignedVarsSpec)

/-- 'laws.FnExactCountPaths', WHERE WHAT IT READS IS OF BULK AT MOST 1048576: true; the input reads as it did. -/
def fnExactCountPathsUptoRow : OpenClaim := { program := "ytcdgbjklfmlhkaa", sum := "cfa0b6f8767a321cc990558d9968960397ddb5a20818711f337c218400a451d3", func := "loop.example/g00893/laws.FnExactCountPaths", spec := "fnExactCountPaths", recurses := true, apart := false, narrowed := true }
def FnExactCountPathsUptoSaid : Prop := fnExactCountPathsUptoRow.holds Try.pinned (OpenSpec.upto fnExactCountPathsSpec)

/-- 'laws.FnExactRangeOf', WHERE WHAT IT READS IS OF BULK AT MOST 1048576: true; the input reads as it did. -/
def fnExactRangeOfUptoRow : OpenClaim := { program := "ytcdgbjklfmlhkaa", sum := "cfa0b6f8767a321cc990558d9968960397ddb5a20818711f337c218400a451d3", func := "loop.example/g00893/laws.FnExactRangeOf", spec := "fnExactRangeOf", apart := false, narrowed := true }
def FnExactRangeOfUptoSaid : Prop := fnExactRangeOfUptoRow.holds Try.pinned (OpenSpec.upto fnExactRangeOfSpec)

/-- 'laws.FnExactCountUses', WHERE WHAT IT READS IS OF BULK AT MOST 1048576: true; the input reads as it did. -/
def fnExactCountUsesUptoRow : OpenClaim := { program := "ytcdgbjklfmlhkaa", sum := "cfa0b6f8767a321cc990558d9968960397ddb5a20818711f337c218400a451d3", func := "loop.example/g00893/laws.FnExactCountUses", spec := "fnExactCountUses", apart := false, narrowed := true }
def FnExactCountUsesUptoSaid : Prop := fnExactCountUsesUptoRow.holds Try.pinned (OpenSpec.upto fnExactCountUsesSpec)

/-- 'laws.FnExactUnreadVars', WHERE WHAT IT READS IS OF BULK AT MOST 1048576: true; the input reads as it did. -/
def fnExactUnreadVarsUptoRow : OpenClaim := { program := "ytcdgbjklfmlhkaa", sum := "cfa0b6f8767a321cc990558d9968960397ddb5a20818711f337c218400a451d3", func := "loop.example/g00893/laws.FnExactUnreadVars", spec := "fnExactUnreadVars", unfollowed := true, recurses := true, apart := false, narrowed := true }
def FnExactUnreadVarsUptoSaid : Prop := fnExactUnreadVarsUptoRow.holds Try.pinned (OpenSpec.upto fnExactUnreadVarsSpec)

/-- 'laws.FnExactIsUnrolled', WHERE WHAT IT READS IS OF BULK AT MOST 1048576: true; the input reads as it did. -/
def fnExactIsUnrolledUptoRow : OpenClaim := { program := "ytcdgbjklfmlhkaa", sum := "cfa0b6f8767a321cc990558d9968960397ddb5a20818711f337c218400a451d3", func := "loop.example/g00893/laws.FnExactIsUnrolled", spec := "fnExactIsUnrolled", unfollowed := true, recurses := true, apart := false, narrowed := true }
def FnExactIsUnrolledUptoSaid : Prop := fnExactIsUnrolledUptoRow.holds Try.pinned (OpenSpec.upto fnExactIsUnrolledSpec)

/-- 'laws.FnExactCallGraph', WHERE WHAT IT READS IS OF BULK AT MOST 1048576: true; the input reads as it did. -/
def fnExactCallGraphUptoRow : OpenClaim := { program := "ytcdgbjklfmlhkaa", sum := "cfa0b6f8767a321cc990558d9968960397ddb5a20818711f337c218400a451d3", func := "loop.example/g00893/laws.FnExactCallGraph", spec := "fnExactCallGraph", recurses := true, apart := false, narrowed := true }
def FnExactCallGraphUptoSaid : Prop := fnExactCallGraphUptoRow.holds Try.pinned (OpenSpec.upto fnExactCallGraphSpec)

end Rows
end Go.Proofs.Ytcdgbjklfmlhkaa
