/-
  Expressions: the model's and the program's test whether one expression is valid.
-/
import Derived.Test.YtcjaknojeaoffaaName3
namespace Go.Proofs.Ytcjaknojeaoffaa
open Go.RowKit Num

/-- Whether an expression is valid as the one with index k, for n variables. -/
def exOk (op a b v : Int) (k n : Nat) : Bool :=
  if op = 1 then decide (a = 0 ∧ b = 0 ∧ 0 ≤ v ∧ v < 21)
  else if op = 2 then decide (a = 0 ∧ b = 0 ∧ 0 ≤ v ∧ v < n)
  else if op = 10 then decide ((0 ≤ a ∧ a < k) ∧ b = 0 ∧ v = 0)
  else decide ((3 ≤ op ∧ op ≤ 9) ∧ (0 ≤ a ∧ a < k) ∧ (0 ≤ b ∧ b < k) ∧ v = 0)

theorem ret_bool {a b : Bool} (h : a = b) : Ending.returned (.bool a) = .returned (.bool b) := by rw [h]

end Go.Proofs.Ytcjaknojeaoffaa
