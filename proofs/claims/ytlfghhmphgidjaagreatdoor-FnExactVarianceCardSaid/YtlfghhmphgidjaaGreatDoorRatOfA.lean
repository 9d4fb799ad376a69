/-
  Several texts in one: RatOfI, LawRatOf.
-/
import Derived.Test.YtlfghhmphgidjaaGreatDoorFracZ
import Derived.Test.YtlfghhmphgidjaaGreatDoorPDec
import Derived.Test.YtlfghhmphgidjaaGreatDoorM2
import Derived.Test.YtlfghhmphgidjaaGreatDoorEqRat
/-
  The program's RatOf, and the model's, where the denominator is 0.
-/
namespace Go.Proofs.YtlfghhmphgidjaaGreatDoor
open Go.RowKit Num

/-- What the program's RatOf asks of the world: two tables of the library's. -/
def Ready (W : World) : Prop := Tab64 W ∧ TabP W

theorem Ready.below {W W' : World} (h : Ready W) (hb : Below W.heap.size W W') : Ready W' := ⟨h.1.below hb, staysP.below _ _ h.2 hb⟩

theorem fracInts_any (num den : Int) (w : World) (hT : Tab64 w) (h1 : -9223372036854775808 ≤ num) (h2 : num ≤ 9223372036854775807) (h3 : -9223372036854775808 ≤ den) (h4 : den ≤ 9223372036854775807) (h0 : den ≠ 0) :
    Calls Tryz.prog 70 #[.int .i64 num, .int .i64 den] w fun e w' => (∃ v, e = .returned v ∧ IsF w' v ((decide (num < 0) != decide (den < 0)) && decide (0 < num.natAbs)) (num.natAbs / Nat.gcd num.natAbs den.natAbs) (den.natAbs / Nat.gcd num.natAbs den.natAbs)) ∧ Below w.heap.size w w' := by
  by_cases hz : num = 0
  · exact fracInts_zero num den w hT h1 h2 h3 h4 h0 hz
  · exact fracInts_pos num den w hT h1 h2 h3 h4 h0 hz

set_option maxRecDepth 100000 in
theorem specRatOf_zero (num : Int) (w : World) :
    Calls Tryz.prog 152 #[.int .i64 num, .int .i64 0] w fun e w' => e = .returned noRat ∧ Below w.heap.size w w' := by
  go_enter Tryz.func152, Tryz.ntmps152
  go_wp2_with fail
  exact bodyPost_ret (v := noRat) (by simp [results, Tryz.results152, go_sem, noRat]) rfl ⟨rfl, (Below.refl _ w).alloc (Nat.le_refl _) _⟩

end Go.Proofs.YtlfghhmphgidjaaGreatDoor
/-
  The law on RatOf: the program answers as the model, whatever the two ints.
-/
namespace Go.Proofs.YtlfghhmphgidjaaGreatDoor
open Go.RowKit Num

end Go.Proofs.YtlfghhmphgidjaaGreatDoor
