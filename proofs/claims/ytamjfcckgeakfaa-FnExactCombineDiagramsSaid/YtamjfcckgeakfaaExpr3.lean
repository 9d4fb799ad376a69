/-
  Expressions: the model's and the program's test whether one expression is valid.
-/
import Derived.Test.YtamjfcckgeakfaaName3
namespace Go.Proofs.Ytamjfcckgeakfaa
open Go.RowKit Num

/-- Whether an expression is valid as the one with index k, for n variables. -/
def exOk (op a b v : Int) (k n : Nat) : Bool :=
  if op = 1 then decide (a = 0 ∧ b = 0 ∧ 0 ≤ v ∧ v < 21)
  else if op = 2 then decide (a = 0 ∧ b = 0 ∧ 0 ≤ v ∧ v < n)
  else if op = 10 then decide ((0 ≤ a ∧ a < k) ∧ b = 0 ∧ v = 0)
  else decide ((3 ≤ op ∧ op ≤ 9) ∧ (0 ≤ a ∧ a < k) ∧ (0 ≤ b ∧ b < k) ∧ v = 0)

theorem idx_any (i n : Int) (w : World) :
    Calls Try.prog 46 #[.int .i64 i, .int .i64 n] w fun e w' => e = .returned (.bool (decide (0 ≤ i ∧ i < n))) ∧ w = w' := by
  by_cases h1 : 0 ≤ i
  · have e : decide (0 ≤ i ∧ i < n) = decide (i < n) := by simp [h1]
    rw [e]
    go_enter Try.func46, Try.ntmps46
    go_wp2_with fail
    all_goals first
      | (go_ret; exact ⟨rfl, rfl⟩)
      | (exfalso; omega)
  · have e : decide (0 ≤ i ∧ i < n) = false := by simp [h1]
    rw [e]
    go_enter Try.func46, Try.ntmps46
    go_wp2_with fail
    all_goals first
      | (go_ret; exact ⟨rfl, rfl⟩)
      | (exfalso; omega)

theorem ret_bool {a b : Bool} (h : a = b) : Ending.returned (.bool a) = .returned (.bool b) := by rw [h]

end Go.Proofs.Ytamjfcckgeakfaa
