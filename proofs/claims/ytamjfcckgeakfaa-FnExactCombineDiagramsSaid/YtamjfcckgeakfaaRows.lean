/-
  No cell of these rows narrows 'for every input' (looked for: loops, veiled, ifaces, maps, wideKeys, modest, calm, conditions, laid).
  DERIVED. THE GIVEN ROWS OF THIS SEAT. 6 by the template 'for every input the law returns true; each argument reads behind the call as it read before'; 0 by the template 'total and deterministic' (their statements: YtamjfcckgeakfaaTotals.lean).
  GIVEN WITH THE SEED: the statements are not yours to turn. If you find one false, say at which input.
  Laid BY PROGRAM, IN A SANDBOX (cutbox-rows.mjs): the forced cells as the released guide's own fill.sh prints them over the translation 0524245d1ea66acd… (all of the seat's roots in one cut). By AI agents, Wed Nov 11 2026. No macro, syntax, notation, axiom, sorry.
-/
import Derived.Test.YtamjfcckgeakfaaChecked
import GoSem.Claim
import GoSem.ClaimJoined
import GoSem.ClaimMapViews
import Derived.JoinedTies
import Derived.KernelRfl
namespace Go.Proofs.Ytamjfcckgeakfaa
/- THE CELL 'sum', in the pinned program and in every row, IS THE sha256 OF THE DUMP (.gsa) THAT YtamjfcckgeakfaaProg.lean LOADS. Nothing in Lean hashes anything: it is a label: what it is worth is what the hold of that sum in a sandbox is worth. -/
noncomputable def Try.pinned : Pinned := { name := "ytamjfcckgeakfaa", sum := "0524245d1ea66acd52009435363ed7391edfe3e4ee7d8d9c35292ffe025f20a3", checked := Try.checked }
namespace Rows
def none {H : Type} : Left H := { results := [], args := [] }

/-- 'laws.FnExactRestrictDiagram': WHATEVER THE INPUT: true; the input reads as it did. -/
def fnExactRestrictDiagramSpec : ChangeSpec := { name := "fnExactRestrictDiagram", fn := fun _ => fun
  | [d1, d2, d3] => { results := [.lit (.bool true)], args := [d1, d2, d3] }
  | _ => none }
def fnExactRestrictDiagramRow : OpenClaim := { program := "ytamjfcckgeakfaa", sum := "0524245d1ea66acd52009435363ed7391edfe3e4ee7d8d9c35292ffe025f20a3", func := "loop.example/g00893/laws.FnExactRestrictDiagram", spec := "fnExactRestrictDiagram", unfollowed := true, recurses := true, plainKeys := false, apart := false }
def FnExactRestrictDiagramSaid : Prop := fnExactRestrictDiagramRow.holds Try.pinned (OpenSpec.ofChange fnExactRestrictDiagramSpec)

/-- ITS FALSE NEIGHBOUR: 'it returns false'. Refute it at one input. -/
def fnExactRestrictDiagramWrong : ChangeSpec := { name := "fnExactRestrictDiagram", fn := fun _ => fun
  | [d1, d2, d3] => { results := [.lit (.bool false)], args := [d1, d2, d3] }
  | _ => none }
def FnExactRestrictDiagramWrongFalsely : Prop := fnExactRestrictDiagramRow.holds Try.pinned (OpenSpec.ofChange fnExactRestrictDiagramWrong)

/-- 'laws.FnExactCombineDiagrams': WHATEVER THE INPUT: true; the input reads as it did. -/
def fnExactCombineDiagramsSpec : ChangeSpec := { name := "fnExactCombineDiagrams", fn := fun _ => fun
  | [d1, d2, d3] => { results := [.lit (.bool true)], args := [d1, d2, d3] }
  | _ => none }
def fnExactCombineDiagramsRow : OpenClaim := { program := "ytamjfcckgeakfaa", sum := "0524245d1ea66acd52009435363ed7391edfe3e4ee7d8d9c35292ffe025f20a3", func := "loop.example/g00893/laws.FnExactCombineDiagrams", spec := "fnExactCombineDiagrams", unfollowed := true, recurses := true, plainKeys := false, apart := false }
def FnExactCombineDiagramsSaid : Prop := fnExactCombineDiagramsRow.holds Try.pinned (OpenSpec.ofChange fnExactCombineDiagramsSpec)

/-- ITS FALSE NEIGHBOUR: 'it returns false'. Refute it at one input. -/
def fnExactCombineDiagramsWrong : ChangeSpec := { name := "fnExactCombineDiagrams", fn := fun _ => fun
  | [d1, d2, d3] => { results := [.lit (.bool false)], args := [d1, d2, d3] }
  | _ => none }
def FnExactCombineDiagramsWrongFalsely : Prop := fnExactCombineDiagramsRow.holds Try.pinned (OpenSpec.ofChange fnExactCombineDiagramsWrong)

/-- 'laws.FnExactNegateDiagram': WHATEVER THE INPUT: true; the input reads as it did. -/
def fnExactNegateDiagramSpec : ChangeSpec := { name := "fnExactNegateDiagram", fn := fun _ => fun
  | [d] => { results := [.lit (.bool true)], args := [d] }
  | _ => none }
def fnExactNegateDiagramRow : OpenClaim := { program := "ytamjfcckgeakfaa", sum := "0524245d1ea66acd52009435363ed7391edfe3e4ee7d8d9c35292ffe025f20a3", func := "loop.example/g00893/laws.FnExactNegateDiagram", spec := "fnExactNegateDiagram", unfollowed := true, recurses := true, plainKeys := false, apart := false }
def FnExactNegateDiagramSaid : Prop := fnExactNegateDiagramRow.holds Try.pinned (OpenSpec.ofChange fnExactNegateDiagramSpec)

/-- ITS FALSE NEIGHBOUR: 'it returns false'. Refute it at one input. -/
def fnExactNegateDiagramWrong : ChangeSpec := { name := "fnExactNegateDiagram", fn := fun _ => fun
  | [d] => { results := [.lit (.bool false)], args := [d] }
  | _ => none }
def FnExactNegateDiagramWrongFalsely : Prop := fnExactNegateDiagramRow.holds Try.pinned (OpenSpec.ofChange fnExactNegateDiagramWrong)

/-- 'laws.FnExactExistsDiagram': WHATEVER THE INPUT: true; the input reads as it did. -/
def fnExactExistsDiagramSpec : ChangeSpec := { name := "fnExactExistsDiagram", fn := fun _ => fun
  | [d1, d2] => { results := [.lit (.bool true)], args := [d1, d2] }
  | _ => none }
def fnExactExistsDiagramRow : OpenClaim := { program := "ytamjfcckgeakfaa", sum := "0524245d1ea66acd52009435363ed7391edfe3e4ee7d8d9c35292ffe025f20a3", func := "loop.example/g00893/laws.FnExactExistsDiagram", spec := "fnExactExistsDiagram", unfollowed := true, recurses := true, plainKeys := false, apart := false }
def FnExactExistsDiagramSaid : Prop := fnExactExistsDiagramRow.holds Try.pinned (OpenSpec.ofChange fnExactExistsDiagramSpec)

/-- ITS FALSE NEIGHBOUR: 'it returns false'. Refute it at one input. -/
def fnExactExistsDiagramWrong : ChangeSpec := { name := "fnExactExistsDiagram", fn := fun _ => fun
  | [d1, d2] => { results := [.lit (.bool false)], args := [d1, d2] }
  | _ => none }
def FnExactExistsDiagramWrongFalsely : Prop := fnExactExistsDiagramRow.holds Try.pinned (OpenSpec.ofChange fnExactExistsDiagramWrong)

/-- 'laws.FnExactTableOf': WHATEVER THE INPUT: true; the input reads as it did. -/
def fnExactTableOfSpec : ChangeSpec := { name := "fnExactTableOf", fn := fun _ => fun
  | [d] => { results := [.lit (.bool true)], args := [d] }
  | _ => none }
def fnExactTableOfRow : OpenClaim := { program := "ytamjfcckgeakfaa", sum := "0524245d1ea66acd52009435363ed7391edfe3e4ee7d8d9c35292ffe025f20a3", func := "loop.example/g00893/laws.FnExactTableOf", spec := "fnExactTableOf", unfollowed := true, recurses := true, plainKeys := false, apart := false }
def FnExactTableOfSaid : Prop := fnExactTableOfRow.holds Try.pinned (OpenSpec.ofChange fnExactTableOfSpec)

/-- ITS FALSE NEIGHBOUR: 'it returns false'. Refute it at one input. -/
def fnExactTableOfWrong : ChangeSpec := { name := "fnExactTableOf", fn := fun _ => fun
  | [d] => { results := [.lit (.bool false)], args := [d] }
  | _ => none }
def FnExactTableOfWrongFalsely : Prop := fnExactTableOfRow.holds Try.pinned (OpenSpec.ofChange fnExactTableOfWrong)

/-- 'laws.FnBoolean': WHATEVER THE INPUT: true; the input reads as it did. -/
def fnBooleanSpec : ChangeSpec := { name := "fnBoolean", fn := fun _ => fun
  | [d1, d2] => { results := [.lit (.bool true)], args := [d1, d2] }
  | _ => none }
def fnBooleanRow : OpenClaim := { program := "ytamjfcckgeakfaa", sum := "0524245d1ea66acd52009435363ed7391edfe3e4ee7d8d9c35292ffe025f20a3", func := "loop.example/g00893/laws.FnBoolean", spec := "fnBoolean", unfollowed := true, recurses := true, plainKeys := false, apart := false }
def FnBooleanSaid : Prop := fnBooleanRow.holds Try.pinned (OpenSpec.ofChange fnBooleanSpec)

/-- ITS FALSE NEIGHBOUR: 'it returns false'. Refute it at one input. -/
def fnBooleanWrong : ChangeSpec := { name := "fnBoolean", fn := fun _ => fun
  | [d1, d2] => { results := [.lit (.bool false)], args := [d1, d2] }
  | _ => none }
def FnBooleanWrongFalsely : Prop := fnBooleanRow.holds Try.pinned (OpenSpec.ofChange fnBooleanWrong)

/- THE SECOND FORM. 'bulk': how many values and letters a reading holds, each counted each time it is reached (what is shared counts as often as it is met; a slice's spare places count too). A statement '..UptoSaid' is the law's where the arguments, and the package variables that the reading takes, are together of bulk at most 1048576: NARROWER than '..Said'. Prove '..Said' where nothing that the law and all that it calls make is longer than what came in: it says more and counts as full. Else prove '..UptoSaid'. A law counts once. -/
mutual
def uptoBulk {H : Type} : DataW H → Nat
  | .lit (.string bytes) => bytes.length + 1
  | .lit _ => 1
  | .nil => 1
  | .ptr d => uptoBulk d + 1
  | .slice elems spare => uptoBulkAll elems + uptoBulkAll spare + 1
  | .agg parts => uptoBulkAll parts + 1
  | .iface _ d => uptoBulk d + 1
  | .map entries => uptoBulkEntries entries + 1
  | .held _ => 1
def uptoBulkAll {H : Type} : List (DataW H) → Nat
  | [] => 0
  | d :: r => uptoBulk d + uptoBulkAll r
def uptoBulkEntries {H : Type} : List (Lit × DataW H) → Nat
  | [] => 0
  | x :: r => uptoBulkEntry x + uptoBulkEntries r
def uptoBulkEntry {H : Type} : Lit × DataW H → Nat
  | (.string bytes, d) => bytes.length + uptoBulk d + 1
  | (_, d) => uptoBulk d + 1
 end
def uptoSmall : (H : Type) → List (DataW H) → Bool := fun _ ds => decide (uptoBulkAll ds ≤ 1048576)
def OpenSpec.upto (s : _root_.Go.ChangeSpec) : _root_.Go.OpenSpec := { _root_.Go.OpenSpec.ofChange s with cond := some uptoSmall }

/-- 'laws.FnExactRestrictDiagram', WHERE WHAT IT READS IS OF BULK AT MOST 1048576: true; the input reads as it did. -/
def fnExactRestrictDiagramUptoRow : OpenClaim := { program := "ytamjfcckgeakfaa", sum := "0524245d1ea66acd52009435363ed7391edfe3e4ee7d8d9c35292ffe025f20a3", func := "loop.example/g00893/laws.FnExactRestrictDiagram", spec := "fnExactRestrictDiagram", unfollowed := true, recurses := true, plainKeys := false, apart := false, narrowed := true }
def FnExactRestrictDiagramUptoSaid : Prop := fnExactRestrictDiagramUptoRow.holds Try.pinned (OpenSpec.upto fnExactRestrictDiagramSpec)

/-- 'laws.FnExactCombineDiagrams', WHERE WHAT IT READS IS OF BULK AT MOST 1048576: true; the input reads as it did. -/
def fnExactCombineDiagramsUptoRow : OpenClaim := { program := "ytamjfcckgeakfaa", sum := "0524245d1ea66acd52009435363ed7391edfe3e4ee7d8d9c35292ffe025f20a3", func := "loop.example/g00893/laws.FnExactCombineDiagrams", spec := "fnExactCombineDiagrams", unfollowed := true, recurses := true, plainKeys := false, apart := false, narrowed := true }
def FnExactCombineDiagramsUptoSaid : Prop := fnExactCombineDiagramsUptoRow.holds Try.pinned (OpenSpec.upto fnExactCombineDiagramsSpec)

/-- 'laws.FnExactNegateDiagram', WHERE WHAT IT READS IS OF BULK AT MOST 1048576: true; the input reads as it did. -/
def fnExactNegateDiagramUptoRow : OpenClaim := { program := "ytamjfcckgeakfaa", sum := "0524245d1ea66acd52009435363ed7391edfe3e4ee7d8d9c35292ffe025f20a3", func := "loop.example/g00893/laws.FnExactNegateDiagram", spec := "fnExactNegateDiagram", unfollowed := true, recurses := true, plainKeys := false, apart := false, narrowed := true }
def FnExactNegateDiagramUptoSaid : Prop := fnExactNegateDiagramUptoRow.holds Try.pinned (OpenSpec.upto fnExactNegateDiagramSpec)

/-- 'laws.FnExactExistsDiagram', WHERE WHAT IT READS IS OF BULK AT MOST 1048576: true; the input reads as it did. -/
def fnExactExistsDiagramUptoRow : OpenClaim := { program := "ytamjfcckgeakfaa", sum := "0524245d1ea66acd52009435363ed7391edfe3e4ee7d8d9c35292ffe025f20a3", func := "loop.example/g00893/laws.FnExactExistsDiagram", spec := "fnExactExistsDiagram", unfollowed := true, recurses := true, plainKeys := false, apart := false, narrowed := true }
def FnExactExistsDiagramUptoSaid : Prop := fnExactExistsDiagramUptoRow.holds Try.pinned (OpenSpec.upto fnExactExistsDiagramSpec)

/-- 'laws.FnExactTableOf', WHERE WHAT IT READS IS OF BULK AT MOST 1048576: true; the input reads as it did. -/
def fnExactTableOfUptoRow : OpenClaim := { program := "ytamjfcckgeakfaa", sum := "0524245d1ea66acd52009435363ed7391edfe3e4ee7d8d9c35292ffe025f20a3", func := "loop.example/g00893/laws.FnExactTableOf", spec := "fnExactTableOf", unfollowed := true, recurses := true, plainKeys := false, apart := false, narrowed := true }
def FnExactTableOfUptoSaid : Prop := fnExactTableOfUptoRow.holds Try.pinned (OpenSpec.upto fnExactTableOfSpec)

/-- 'laws.FnBoolean', WHERE WHAT IT READS IS OF BULK AT MOST 1048576: true; the input reads as it did. -/
def fnBooleanUptoRow : OpenClaim := { program := "ytamjfcckgeakfaa", sum := "0524245d1ea66acd52009435363ed7391edfe3e4ee7d8d9c35292ffe025f20a3", func := "loop.example/g00893/laws.FnBoolean", spec := "fnBoolean", unfollowed := true, recurses := true, plainKeys := false, apart := false, narrowed := true }
def FnBooleanUptoSaid : Prop := fnBooleanUptoRow.holds Try.pinned (OpenSpec.upto fnBooleanSpec)

end Rows
end Go.Proofs.Ytamjfcckgeakfaa
