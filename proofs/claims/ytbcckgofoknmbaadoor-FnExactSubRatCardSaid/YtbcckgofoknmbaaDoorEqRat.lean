/-
  The law's comparison of two Rats that are the same.
-/
import Derived.Test.YtbcckgofoknmbaaDoorHold
namespace Go.Proofs.YtbcckgofoknmbaaDoor
open Go.RowKit Num

set_option maxRecDepth 100000 in
set_option maxHeartbeats 1000000 in
theorem eqRat_same (b : Bool) (x y : ByteArray) (w : World) :
    Calls Tryd.prog 8 #[.agg #[.bool b, .string x, .string y], .agg #[.bool b, .string x, .string y]] w fun e w' => e = .returned (.bool true) ∧ Below w.heap.size w w' := by
  go_enter Tryd.func8, Tryd.ntmps8
  go_wp2_with fail
  go_ret
  exact ⟨rfl, ((Below.refl _ w).alloc (Nat.le_refl _) _).alloc (by simp) _⟩

end Go.Proofs.YtbcckgofoknmbaaDoor
