/-
  Values for a program's variables: the model's and the program's test that they fit.
-/
import Derived.Test.YtdeilceakhgjlaaPgVi
namespace Go.Proofs.Ytdeilceakhgjlaa
open Go.RowKit Num

/-- The values fit the variables. -/
def ValsOk (P : Prg) (n : Nat) (f : Nat → Int) : Prop := n = P.nv ∧ ∀ j, j < n → 0 ≤ f j ∧ f j < P.vz j

end Go.Proofs.Ytdeilceakhgjlaa
