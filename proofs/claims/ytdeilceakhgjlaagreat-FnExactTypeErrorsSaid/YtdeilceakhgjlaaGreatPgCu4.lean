/-
  Is it an expression of a valid program: the model's test. (Written by gen_pgcu4.py.)
-/
import Derived.Test.YtdeilceakhgjlaaGreatPgVs
namespace Go.Proofs.YtdeilceakhgjlaaGreat
open Go.RowKit Num

/-- The program is valid and the expression is one of its own. -/
def ExOf (P : Prg) (m : Int) : Prop := PgOk P ∧ 0 ≤ m ∧ m < (P.nx : Int)

end Go.Proofs.YtdeilceakhgjlaaGreat
