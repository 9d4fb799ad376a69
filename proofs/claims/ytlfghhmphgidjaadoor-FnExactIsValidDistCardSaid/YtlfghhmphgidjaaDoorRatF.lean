/-
  The program's fraction as a Rat, from what its decimal numerals come to.
-/
import Derived.Test.YtlfghhmphgidjaaDoorPWord
import Derived.Test.YtlfghhmphgidjaaDoorM2
namespace Go.Proofs.YtlfghhmphgidjaaDoor
open Go.RowKit Num

theorem wide_not (n : Nat) (h : 7 < ln WB n) : 120 < (decL n).length := by
  have h1 : WB ^ 7 ≤ n := by
    refine top_le WB n 7 WB_two h
  have h2 : (10 : Nat) ^ 120 ≤ WB ^ 7 := by unfold WB; decide
  have h3 := lt_ln_of_le 10 n 120 (by omega) (Nat.le_trans h2 h1)
  unfold decL
  have h4 : n ≠ 0 := fun e => by rw [e, ln_zero] at h; omega
  rw [if_neg h4, List.length_map, List.length_reverse, length_digs]
  exact h3

/-- What the numerals ask of the world: it stays while only newer blocks turn. -/
structure Stays (R : World → Prop) : Prop where
  below : ∀ W W' : World, R W → Below W.heap.size W W' → R W'

end Go.Proofs.YtlfghhmphgidjaaDoor
