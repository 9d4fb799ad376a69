/-
  Several texts in one: CompS, LawComp.
-/
import Derived.Test.YtbcckgofoknmbaaDoorSumMulQ
import Derived.Test.YtbcckgofoknmbaaDoorCompW
import Derived.Test.YtbcckgofoknmbaaDoorFracLaw
/-
  The model's CompareRat.
-/
namespace Go.Proofs.YtbcckgofoknmbaaDoor
open Go.RowKit Num

theorem num_lt_room {s : ByteArray} (h : isNum s = true) : ln 10000 (numOf s) ≤ 137438953472 := by
  have h1 : (10 : Nat) ^ 120 = 10000 ^ 30 := by decide
  exact Nat.le_trans (ln_le_of_lt 10000 _ 30 (by omega) (by rw [← h1]; exact numOf_lt h)) (by omega)

end Go.Proofs.YtbcckgofoknmbaaDoor
/-
  The law on CompareRat: the program answers as the model, whatever the two Rats.
-/
namespace Go.Proofs.YtbcckgofoknmbaaDoor
open Go.RowKit Num

end Go.Proofs.YtbcckgofoknmbaaDoor
