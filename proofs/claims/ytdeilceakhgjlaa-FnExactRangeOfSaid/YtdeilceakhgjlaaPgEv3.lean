/-
  One expression's value, the model's.
-/
import Derived.Test.YtdeilceakhgjlaaPgEv2
namespace Go.Proofs.Ytdeilceakhgjlaa
open Go.RowKit Num

/-- An expression's value, from those of the expressions before it and of the variables. -/
def exV (op a b v : Int) (g f : Nat → Int) : Int :=
  if op = 1 then v else if op = 2 then f v.toNat else opV op (g a.toNat) (g b.toNat)

end Go.Proofs.Ytdeilceakhgjlaa
