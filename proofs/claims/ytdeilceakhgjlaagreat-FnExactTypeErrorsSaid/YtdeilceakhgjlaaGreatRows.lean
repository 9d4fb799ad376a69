/-
  No cell of these rows narrows 'for every input' (looked for: loops, veiled, ifaces, maps, wideKeys, modest, calm, conditions, laid).
  DERIVED. THE GIVEN ROWS OF THIS SEAT. 10 by the template 'for every input the law returns true; each argument reads behind the call as it read before'; 0 by the template 'total and deterministic' (their statements: YtdeilceakhgjlaaGreatTotals.lean).
  GIVEN WITH THE SEED: the statements are not yours to turn. If you find one false, say at which input.
  Laid BY PROGRAM, IN A SANDBOX (cutbox-rows.mjs): the forced cells as the released guide's own fill.sh prints them over the translation 4ef2c27f30440d73… (all of the seat's roots in one cut). By AI agents, Wed Nov 11 2026. No macro, syntax, notation, axiom, sorry.
-/
import Derived.Test.YtdeilceakhgjlaaGreatChecked
import GoSem.Claim
import GoSem.ClaimJoined
import GoSem.ClaimMapViews
import Derived.JoinedTies
import Derived.KernelRfl
namespace Go.Proofs.YtdeilceakhgjlaaGreat
/- THE CELL 'sum', in the pinned program and in every row, IS THE sha256 OF THE DUMP (.gsa) THAT YtdeilceakhgjlaaGreatProg.lean LOADS. Nothing in Lean hashes anything: it is a label: what it is worth is what the hold of that sum in a sandbox is worth. -/
noncomputable def Tryz.pinned : Pinned := { name := "ytdeilceakhgjlaagreat", sum := "4ef2c27f30440d73c5bfa1bfc9bb6b3c5e6d750b769f57365c7f803fac83d7cc", checked := Tryz.checked }
namespace Rows
def none {H : Type} : Left H := { results := [], args := [] }

/-- 'laws.FnExactTypeErrors': WHATEVER THE INPUT: true; the input reads as it did. -/
def fnExactTypeErrorsSpec : ChangeSpec := { name := "fnExactTypeErrors", fn := fun _ => fun
  | [d] => { results := [.lit (.bool true)], args := [d] }
  | _ => none }
def fnExactTypeErrorsRow : OpenClaim := { program := "ytdeilceakhgjlaagreat", sum := "4ef2c27f30440d73c5bfa1bfc9bb6b3c5e6d750b769f57365c7f803fac83d7cc", func := "loop.example/g00893/laws.FnExactTypeErrors", spec := "fnExactTypeErrors", unfollowed := true, recurses := true, plainKeys := false, apart := false }
def FnExactTypeErrorsSaid : Prop := fnExactTypeErrorsRow.holds Tryz.pinned (OpenSpec.ofChange fnExactTypeErrorsSpec)

/-- ITS FALSE NEIGHBOUR: 'it returns false'. Refute it at one input. -/
def fnExactTypeErrorsWrong : ChangeSpec := { name := "fnExactTypeErrors", fn := fun _ => fun
  | [d] => { results := [.lit (.bool false)], args := [d] }
  | _ => none }
def FnExactTypeErrorsWrongFalsely : Prop := fnExactTypeErrorsRow.holds Tryz.pinned (OpenSpec.ofChange fnExactTypeErrorsWrong)

/-- 'laws.FnExactIsAffine': WHATEVER THE INPUT: true; the input reads as it did. -/
def fnExactIsAffineSpec : ChangeSpec := { name := "fnExactIsAffine", fn := fun _ => fun
  | [d1, d2] => { results := [.lit (.bool true)], args := [d1, d2] }
  | _ => none }
def fnExactIsAffineRow : OpenClaim := { program := "ytdeilceakhgjlaagreat", sum := "4ef2c27f30440d73c5bfa1bfc9bb6b3c5e6d750b769f57365c7f803fac83d7cc", func := "loop.example/g00893/laws.FnExactIsAffine", spec := "fnExactIsAffine", unfollowed := true, recurses := true, plainKeys := false, apart := false }
def FnExactIsAffineSaid : Prop := fnExactIsAffineRow.holds Tryz.pinned (OpenSpec.ofChange fnExactIsAffineSpec)

/-- ITS FALSE NEIGHBOUR: 'it returns false'. Refute it at one input. -/
def fnExactIsAffineWrong : ChangeSpec := { name := "fnExactIsAffine", fn := fun _ => fun
  | [d1, d2] => { results := [.lit (.bool false)], args := [d1, d2] }
  | _ => none }
def FnExactIsAffineWrongFalsely : Prop := fnExactIsAffineRow.holds Tryz.pinned (OpenSpec.ofChange fnExactIsAffineWrong)

/-- 'laws.FnExactFirstMisuse': WHATEVER THE INPUT: true; the input reads as it did. -/
def fnExactFirstMisuseSpec : ChangeSpec := { name := "fnExactFirstMisuse", fn := fun _ => fun
  | [d1, d2] => { results := [.lit (.bool true)], args := [d1, d2] }
  | _ => none }
def fnExactFirstMisuseRow : OpenClaim := { program := "ytdeilceakhgjlaagreat", sum := "4ef2c27f30440d73c5bfa1bfc9bb6b3c5e6d750b769f57365c7f803fac83d7cc", func := "loop.example/g00893/laws.FnExactFirstMisuse", spec := "fnExactFirstMisuse", unfollowed := true, recurses := true, plainKeys := false, apart := false }
def FnExactFirstMisuseSaid : Prop := fnExactFirstMisuseRow.holds Tryz.pinned (OpenSpec.ofChange fnExactFirstMisuseSpec)

/-- ITS FALSE NEIGHBOUR: 'it returns false'. Refute it at one input. -/
def fnExactFirstMisuseWrong : ChangeSpec := { name := "fnExactFirstMisuse", fn := fun _ => fun
  | [d1, d2] => { results := [.lit (.bool false)], args := [d1, d2] }
  | _ => none }
def FnExactFirstMisuseWrongFalsely : Prop := fnExactFirstMisuseRow.holds Tryz.pinned (OpenSpec.ofChange fnExactFirstMisuseWrong)

/-- 'laws.FnExactConsumedAfter': WHATEVER THE INPUT: true; the input reads as it did. -/
def fnExactConsumedAfterSpec : ChangeSpec := { name := "fnExactConsumedAfter", fn := fun _ => fun
  | [d1, d2] => { results := [.lit (.bool true)], args := [d1, d2] }
  | _ => none }
def fnExactConsumedAfterRow : OpenClaim := { program := "ytdeilceakhgjlaagreat", sum := "4ef2c27f30440d73c5bfa1bfc9bb6b3c5e6d750b769f57365c7f803fac83d7cc", func := "loop.example/g00893/laws.FnExactConsumedAfter", spec := "fnExactConsumedAfter", recurses := true, plainKeys := false, apart := false }
def FnExactConsumedAfterSaid : Prop := fnExactConsumedAfterRow.holds Tryz.pinned (OpenSpec.ofChange fnExactConsumedAfterSpec)

/-- ITS FALSE NEIGHBOUR: 'it returns false'. Refute it at one input. -/
def fnExactConsumedAfterWrong : ChangeSpec := { name := "fnExactConsumedAfter", fn := fun _ => fun
  | [d1, d2] => { results := [.lit (.bool false)], args := [d1, d2] }
  | _ => none }
def FnExactConsumedAfterWrongFalsely : Prop := fnExactConsumedAfterRow.holds Tryz.pinned (OpenSpec.ofChange fnExactConsumedAfterWrong)

/-- 'laws.FnExactAffineVars': WHATEVER THE INPUT: true; the input reads as it did. -/
def fnExactAffineVarsSpec : ChangeSpec := { name := "fnExactAffineVars", fn := fun _ => fun
  | [d] => { results := [.lit (.bool true)], args := [d] }
  | _ => none }
def fnExactAffineVarsRow : OpenClaim := { program := "ytdeilceakhgjlaagreat", sum := "4ef2c27f30440d73c5bfa1bfc9bb6b3c5e6d750b769f57365c7f803fac83d7cc", func := "loop.example/g00893/laws.FnExactAffineVars", spec := "fnExactAffineVars", unfollowed := true, recurses := true, plainKeys := false, apart := false }
def FnExactAffineVarsSaid : Prop := fnExactAffineVarsRow.holds Tryz.pinned (OpenSpec.ofChange fnExactAffineVarsSpec)

/-- ITS FALSE NEIGHBOUR: 'it returns false'. Refute it at one input. -/
def fnExactAffineVarsWrong : ChangeSpec := { name := "fnExactAffineVars", fn := fun _ => fun
  | [d] => { results := [.lit (.bool false)], args := [d] }
  | _ => none }
def FnExactAffineVarsWrongFalsely : Prop := fnExactAffineVarsRow.holds Tryz.pinned (OpenSpec.ofChange fnExactAffineVarsWrong)

/-- 'laws.FnExactRenumbered': WHATEVER THE INPUT: true; the input reads as it did. -/
def fnExactRenumberedSpec : ChangeSpec := { name := "fnExactRenumbered", fn := fun _ => fun
  | [d] => { results := [.lit (.bool true)], args := [d] }
  | _ => none }
def fnExactRenumberedRow : OpenClaim := { program := "ytdeilceakhgjlaagreat", sum := "4ef2c27f30440d73c5bfa1bfc9bb6b3c5e6d750b769f57365c7f803fac83d7cc", func := "loop.example/g00893/laws.FnExactRenumbered", spec := "fnExactRenumbered", unfollowed := true, recurses := true, plainKeys := false, apart := false }
def FnExactRenumberedSaid : Prop := fnExactRenumberedRow.holds Tryz.pinned (OpenSpec.ofChange fnExactRenumberedSpec)

/-- ITS FALSE NEIGHBOUR: 'it returns false'. Refute it at one input. -/
def fnExactRenumberedWrong : ChangeSpec := { name := "fnExactRenumbered", fn := fun _ => fun
  | [d] => { results := [.lit (.bool false)], args := [d] }
  | _ => none }
def FnExactRenumberedWrongFalsely : Prop := fnExactRenumberedRow.holds Tryz.pinned (OpenSpec.ofChange fnExactRenumberedWrong)

/-- 'laws.FnExactLiveAtStart': WHATEVER THE INPUT: true; the input reads as it did. -/
def fnExactLiveAtStartSpec : ChangeSpec := { name := "fnExactLiveAtStart", fn := fun _ => fun
  | [d1, d2] => { results := [.lit (.bool true)], args := [d1, d2] }
  | _ => none }
def fnExactLiveAtStartRow : OpenClaim := { program := "ytdeilceakhgjlaagreat", sum := "4ef2c27f30440d73c5bfa1bfc9bb6b3c5e6d750b769f57365c7f803fac83d7cc", func := "loop.example/g00893/laws.FnExactLiveAtStart", spec := "fnExactLiveAtStart", unfollowed := true, recurses := true, plainKeys := false, apart := false }
def FnExactLiveAtStartSaid : Prop := fnExactLiveAtStartRow.holds Tryz.pinned (OpenSpec.ofChange fnExactLiveAtStartSpec)

/-- ITS FALSE NEIGHBOUR: 'it returns false'. Refute it at one input. -/
def fnExactLiveAtStartWrong : ChangeSpec := { name := "fnExactLiveAtStart", fn := fun _ => fun
  | [d1, d2] => { results := [.lit (.bool false)], args := [d1, d2] }
  | _ => none }
def FnExactLiveAtStartWrongFalsely : Prop := fnExactLiveAtStartRow.holds Tryz.pinned (OpenSpec.ofChange fnExactLiveAtStartWrong)

/-- 'laws.FnExactDeadStatements': WHATEVER THE INPUT: true; the input reads as it did. -/
def fnExactDeadStatementsSpec : ChangeSpec := { name := "fnExactDeadStatements", fn := fun _ => fun
  | [d1, d2] => { results := [.lit (.bool true)], args := [d1, d2] }
  | _ => none }
def fnExactDeadStatementsRow : OpenClaim := { program := "ytdeilceakhgjlaagreat", sum := "4ef2c27f30440d73c5bfa1bfc9bb6b3c5e6d750b769f57365c7f803fac83d7cc", func := "loop.example/g00893/laws.FnExactDeadStatements", spec := "fnExactDeadStatements", unfollowed := true, recurses := true, plainKeys := false, apart := false }
def FnExactDeadStatementsSaid : Prop := fnExactDeadStatementsRow.holds Tryz.pinned (OpenSpec.ofChange fnExactDeadStatementsSpec)

/-- ITS FALSE NEIGHBOUR: 'it returns false'. Refute it at one input. -/
def fnExactDeadStatementsWrong : ChangeSpec := { name := "fnExactDeadStatements", fn := fun _ => fun
  | [d1, d2] => { results := [.lit (.bool false)], args := [d1, d2] }
  | _ => none }
def FnExactDeadStatementsWrongFalsely : Prop := fnExactDeadStatementsRow.holds Tryz.pinned (OpenSpec.ofChange fnExactDeadStatementsWrong)

/-- 'laws.FnExactSliceFor': WHATEVER THE INPUT: true; the input reads as it did. -/
def fnExactSliceForSpec : ChangeSpec := { name := "fnExactSliceFor", fn := fun _ => fun
  | [d1, d2] => { results := [.lit (.bool true)], args := [d1, d2] }
  | _ => none }
def fnExactSliceForRow : OpenClaim := { program := "ytdeilceakhgjlaagreat", sum := "4ef2c27f30440d73c5bfa1bfc9bb6b3c5e6d750b769f57365c7f803fac83d7cc", func := "loop.example/g00893/laws.FnExactSliceFor", spec := "fnExactSliceFor", unfollowed := true, recurses := true, plainKeys := false, apart := false }
def FnExactSliceForSaid : Prop := fnExactSliceForRow.holds Tryz.pinned (OpenSpec.ofChange fnExactSliceForSpec)

/-- ITS FALSE NEIGHBOUR: 'it returns false'. Refute it at one input. -/
def fnExactSliceForWrong : ChangeSpec := { name := "fnExactSliceFor", fn := fun _ => fun
  | [d1, d2] => { results := [.lit (.bool false)], args := [d1, d2] }
  | _ => none }
def FnExactSliceForWrongFalsely : Prop := fnExactSliceForRow.holds Tryz.pinned (OpenSpec.ofChange fnExactSliceForWrong)

/-- 'laws.FnExactKnownAtEnd': WHATEVER THE INPUT: true; the input reads as it did. -/
def fnExactKnownAtEndSpec : ChangeSpec := { name := "fnExactKnownAtEnd", fn := fun _ => fun
  | [d] => { results := [.lit (.bool true)], args := [d] }
  | _ => none }
def fnExactKnownAtEndRow : OpenClaim := { program := "ytdeilceakhgjlaagreat", sum := "4ef2c27f30440d73c5bfa1bfc9bb6b3c5e6d750b769f57365c7f803fac83d7cc", func := "loop.example/g00893/laws.FnExactKnownAtEnd", spec := "fnExactKnownAtEnd", unfollowed := true, recurses := true, plainKeys := false, apart := false }
def FnExactKnownAtEndSaid : Prop := fnExactKnownAtEndRow.holds Tryz.pinned (OpenSpec.ofChange fnExactKnownAtEndSpec)

/-- ITS FALSE NEIGHBOUR: 'it returns false'. Refute it at one input. -/
def fnExactKnownAtEndWrong : ChangeSpec := { name := "fnExactKnownAtEnd", fn := fun _ => fun
  | [d] => { results := [.lit (.bool false)], args := [d] }
  | _ => none }
def FnExactKnownAtEndWrongFalsely : Prop := fnExactKnownAtEndRow.holds Tryz.pinned (OpenSpec.ofChange fnExactKnownAtEndWrong)

/- THE SECOND FORM. 'bulk': how many values and letters a reading holds, each counted each time it is reached (what is shared counts as often as it is met; a slice's spare places count too). A statement '..UptoSaid' is the law's where the arguments, and the package variables that the reading takes, are together of bulk at most 1048576: NARROWER than '..Said'. Prove '..Said' where nothing that the law and all that it calls make is longer than what came in: it says more and counts as full. Else prove '..UptoSaid'. A law counts once. -/
mutual
def uptoBulk {H : Type} : DataW H → Nat
  | .lit (.string bytes) => bytes.length + 1
  | .lit _ => 1
  | .nil => 1
  | .ptr d => uptoBulk d + 1
  | .slice elems spare => uptoBulkAll elems + uptoBulkAll spare + 1
  | .agg parts => uptoBulkAll parts + 1
  | .iface _ d => uptoBulk d + 1
  | .map entries => uptoBulkEntries entries + 1
  | .held _ => 1
def uptoBulkAll {H : Type} : List (DataW H) → Nat
  | [] => 0
  | d :: r => uptoBulk d + uptoBulkAll r
def uptoBulkEntries {H : Type} : List (Lit × DataW H) → Nat
  | [] => 0
  | x :: r => uptoBulkEntry x + uptoBulkEntries r
def uptoBulkEntry {H : Type} : Lit × DataW H → Nat
  | (.string bytes, d) => bytes.length + uptoBulk d + 1
  | (_, d) => uptoBulk d + 1
 end
def uptoSmall : (H : Type) → List (DataW H) → Bool := fun _ ds => decide (uptoBulkAll ds ≤ 1048576)
def OpenSpec.upto (s : _root_.Go.ChangeSpec) : _root_.Go.OpenSpec := { _root_.Go.OpenSpec.ofChange s with cond := some uptoSmall }

/-- 'laws.FnExactTypeErrors', WHERE WHAT IT READS IS OF BULK AT MOST 1048576: true; the input reads as it did. -/
def fnExactTypeErrorsUptoRow : OpenClaim := { program := "ytdeilceakhgjlaagreat", sum := "4ef2c27f30440d73c5bfa1bfc9bb6b3c5e6d750b769f57365c7f803fac83d7cc", func := "loop.example/g00893/laws.FnExactTypeErrors", spec := "fnExactTypeErrors", unfollowed := true, recurses := true, plainKeys := false, apart := false, narrowed := true }
def FnExactTypeErrorsUptoSaid : Prop := fnExactTypeErrorsUptoRow.holds Tryz.pinned (OpenSpec.upto fnExactTypeErrorsSpec)

/-- 'laws.FnExactIsAffine', WHERE WHAT IT READS IS OF BULK AT MOST 1048576: true; the input reads as it did. -/
def fnExactIsAffineUptoRow : OpenClaim := { program := "ytdeilceakhgjlaagreat", sum := "4ef2c27f30440d73c5bfa1bfc9bb6b3c5e6d750b769f57365c7f803fac83d7cc", func := "loop.example/g00893/laws.FnExactIsAffine", spec := "fnExactIsAffine", unfollowed := true, recurses := true, plainKeys := false, apart := false, narrowed := true }
def FnExactIsAffineUptoSaid : Prop := fnExactIsAffineUptoRow.holds Tryz.pinned (OpenSpec.upto fnExactIsAffineSpec)

/-- 'laws.FnExactFirstMisuse', WHERE WHAT IT READS IS OF BULK AT MOST 1048576: true; the input reads as it did. -/
def fnExactFirstMisuseUptoRow : OpenClaim := { program := "ytdeilceakhgjlaagreat", sum := "4ef2c27f30440d73c5bfa1bfc9bb6b3c5e6d750b769f57365c7f803fac83d7cc", func := "loop.example/g00893/laws.FnExactFirstMisuse", spec := "fnExactFirstMisuse", unfollowed := true, recurses := true, plainKeys := false, apart := false, narrowed := true }
def FnExactFirstMisuseUptoSaid : Prop := fnExactFirstMisuseUptoRow.holds Tryz.pinned (OpenSpec.upto fnExactFirstMisuseSpec)

/-- 'laws.FnExactConsumedAfter', WHERE WHAT IT READS IS OF BULK AT MOST 1048576: true; the input reads as it did. -/
def fnExactConsumedAfterUptoRow : OpenClaim := { program := "ytdeilceakhgjlaagreat", sum := "4ef2c27f30440d73c5bfa1bfc9bb6b3c5e6d750b769f57365c7f803fac83d7cc", func := "loop.example/g00893/laws.FnExactConsumedAfter", spec := "fnExactConsumedAfter", recurses := true, plainKeys := false, apart := false, narrowed := true }
def FnExactConsumedAfterUptoSaid : Prop := fnExactConsumedAfterUptoRow.holds Tryz.pinned (OpenSpec.upto fnExactConsumedAfterSpec)

/-- 'laws.FnExactAffineVars', WHERE WHAT IT READS IS OF BULK AT MOST 1048576: true; the input reads as it did. -/
def fnExactAffineVarsUptoRow : OpenClaim := { program := "ytdeilceakhgjlaagreat", sum := "4ef2c27f30440d73c5bfa1bfc9bb6b3c5e6d750b769f57365c7f803fac83d7cc", func := "loop.example/g00893/laws.FnExactAffineVars", spec := "fnExactAffineVars", unfollowed := true, recurses := true, plainKeys := false, apart := false, narrowed := true }
def FnExactAffineVarsUptoSaid : Prop := fnExactAffineVarsUptoRow.holds Tryz.pinned (OpenSpec.upto fnExactAffineVarsSpec)

/-- 'laws.FnExactRenumbered', WHERE WHAT IT READS IS OF BULK AT MOST 1048576: true; the input reads as it did. -/
def fnExactRenumberedUptoRow : OpenClaim := { program := "ytdeilceakhgjlaagreat", sum := "4ef2c27f30440d73c5bfa1bfc9bb6b3c5e6d750b769f57365c7f803fac83d7cc", func := "loop.example/g00893/laws.FnExactRenumbered", spec := "fnExactRenumbered", unfollowed := true, recurses := true, plainKeys := false, apart := false, narrowed := true }
def FnExactRenumberedUptoSaid : Prop := fnExactRenumberedUptoRow.holds Tryz.pinned (OpenSpec.upto fnExactRenumberedSpec)

/-- 'laws.FnExactLiveAtStart', WHERE WHAT IT READS IS OF BULK AT MOST 1048576: true; the input reads as it did. -/
def fnExactLiveAtStartUptoRow : OpenClaim := { program := "ytdeilceakhgjlaagreat", sum := "4ef2c27f30440d73c5bfa1bfc9bb6b3c5e6d750b769f57365c7f803fac83d7cc", func := "loop.example/g00893/laws.FnExactLiveAtStart", spec := "fnExactLiveAtStart", unfollowed := true, recurses := true, plainKeys := false, apart := false, narrowed := true }
def FnExactLiveAtStartUptoSaid : Prop := fnExactLiveAtStartUptoRow.holds Tryz.pinned (OpenSpec.upto fnExactLiveAtStartSpec)

/-- 'laws.FnExactDeadStatements', WHERE WHAT IT READS IS OF BULK AT MOST 1048576: true; the input reads as it did. -/
def fnExactDeadStatementsUptoRow : OpenClaim := { program := "ytdeilceakhgjlaagreat", sum := "4ef2c27f30440d73c5bfa1bfc9bb6b3c5e6d750b769f57365c7f803fac83d7cc", func := "loop.example/g00893/laws.FnExactDeadStatements", spec := "fnExactDeadStatements", unfollowed := true, recurses := true, plainKeys := false, apart := false, narrowed := true }
def FnExactDeadStatementsUptoSaid : Prop := fnExactDeadStatementsUptoRow.holds Tryz.pinned (OpenSpec.upto fnExactDeadStatementsSpec)

/-- 'laws.FnExactSliceFor', WHERE WHAT IT READS IS OF BULK AT MOST 1048576: true; the input reads as it did. -/
def fnExactSliceForUptoRow : OpenClaim := { program := "ytdeilceakhgjlaagreat", sum := "4ef2c27f30440d73c5bfa1bfc9bb6b3c5e6d750b769f57365c7f803fac83d7cc", func := "loop.example/g00893/laws.FnExactSliceFor", spec := "fnExactSliceFor", unfollowed := true, recurses := true, plainKeys := false, apart := false, narrowed := true }
def FnExactSliceForUptoSaid : Prop := fnExactSliceForUptoRow.holds Tryz.pinned (OpenSpec.upto fnExactSliceForSpec)

/-- 'laws.FnExactKnownAtEnd', WHERE WHAT IT READS IS OF BULK AT MOST 1048576: true; the input reads as it did. -/
def fnExactKnownAtEndUptoRow : OpenClaim := { program := "ytdeilceakhgjlaagreat", sum := "4ef2c27f30440d73c5bfa1bfc9bb6b3c5e6d750b769f57365c7f803fac83d7cc", func := "loop.example/g00893/laws.FnExactKnownAtEnd", spec := "fnExactKnownAtEnd", unfollowed := true, recurses := true, plainKeys := false, apart := false, narrowed := true }
def FnExactKnownAtEndUptoSaid : Prop := fnExactKnownAtEndUptoRow.holds Tryz.pinned (OpenSpec.upto fnExactKnownAtEndSpec)

end Rows
end Go.Proofs.YtdeilceakhgjlaaGreat
