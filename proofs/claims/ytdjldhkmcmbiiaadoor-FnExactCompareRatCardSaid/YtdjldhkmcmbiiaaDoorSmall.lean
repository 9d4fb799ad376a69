/-
  Walks of the model's small functions on integers.
-/
import Derived.Test.YtdjldhkmcmbiiaaDoorHold
namespace Go.Proofs.YtdjldhkmcmbiiaaDoor
open Go.RowKit Num

/-- The sign of a number. -/
def sgn (n : Int) : Int := if n < 0 then -1 else if 0 < n then 1 else 0

set_option maxHeartbeats 400000 in
theorem sign_any (n : Int) (w : World) : Calls Tryd.prog 123 #[.int .i64 n] w fun e w' => e = .returned (.int .i64 (sgn n)) ∧ w = w' := by
  by_cases h1 : n < 0
  · go_enter Tryd.func123, Tryd.ntmps123
    go_wp2
    go_ret
    exact ⟨ret_int (by simp [sgn, h1]), rfl⟩
  · by_cases h2 : 0 < n
    · go_enter Tryd.func123, Tryd.ntmps123
      go_wp2
      go_ret
      exact ⟨ret_int (by rw [sgn, if_neg (by omega), if_pos (by omega)]), rfl⟩
    · go_enter Tryd.func123, Tryd.ntmps123
      go_wp2
      go_ret
      exact ⟨ret_int (by rw [sgn, if_neg (by omega), if_neg (by omega)]), rfl⟩

end Go.Proofs.YtdjldhkmcmbiiaaDoor
