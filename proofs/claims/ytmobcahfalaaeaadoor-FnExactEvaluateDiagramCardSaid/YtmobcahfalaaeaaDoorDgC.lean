/-
  ConstantDiagram and VariableDiagram on both sides.
-/
import Derived.Test.YtmobcahfalaaeaaDoorDgE
namespace Go.Proofs.YtmobcahfalaaeaaDoor
open Go.RowKit Num

theorem heldE3 {W W' : World} {p0 p1 p2 p3 p4 p5 : Prop} (h : p0 ∧ p1 ∧ p2 ∧ p3 ∧ p4 ∧ p5 ∧ Below W.heap.size W W') : Below W.heap.size W W' := h.2.2.2.2.2.2

/-- An answer of a diagram and a bool. -/
def DgPost (L r : Int) (n : Nat) (f : Nat → Int) (ok : Bool) (w : World) (e : Ending) (w' : World) : Prop :=
  ∃ A c, e = .returned (.tuple #[dgV L A n c r, .bool ok]) ∧ IntsAt w.heap.size w' A (n * 3) f ∧ Below w.heap.size w w'

theorem l1In_any (x a b : Int) (w : World) : Calls Tryd.prog 14 #[.int .i64 x, .int .i64 a, .int .i64 b] w fun e w' => e = .returned (.bool (decide (a ≤ x) && decide (x ≤ b))) ∧ w' = w := by
  go_enter Tryd.func14, Tryd.ntmps14
  by_cases h1 : a ≤ x
  · have d1 : decide (a ≤ x) = true := decide_eq_true h1
    go_wp2_with fail
    go_ret
    exact ⟨by first | rfl | (rw [d1, Bool.true_and]; rfl), rfl⟩
  · have d1 : decide (a ≤ x) = false := decide_eq_false h1
    go_wp2_with fail
    go_ret
    exact ⟨by first | rfl | (rw [d1, Bool.false_and]; rfl), rfl⟩

theorem isIndex_any (x n : Int) (w : World) : Calls Tryd.prog 30 #[.int .i64 x, .int .i64 n] w fun e w' => e = .returned (.bool (decide (0 ≤ x) && decide (x < n))) ∧ w' = w := by
  go_enter Tryd.func30, Tryd.ntmps30
  by_cases h1 : 0 ≤ x
  · have d1 : decide (0 ≤ x) = true := decide_eq_true h1
    go_wp2_with fail
    go_ret
    exact ⟨by first | rfl | (rw [d1, Bool.true_and]; rfl), rfl⟩
  · have d1 : decide (0 ≤ x) = false := decide_eq_false h1
    go_wp2_with fail
    go_ret
    exact ⟨by first | rfl | (rw [d1, Bool.false_and]; rfl), rfl⟩

theorem areLevels_any (x : Int) (w : World) : Calls Tryd.prog 17 #[.int .i64 x] w fun e w' => e = .returned (.bool (decide (0 ≤ x) && decide (x ≤ 10))) ∧ w' = w := by
  go_enter Tryd.func17, Tryd.ntmps17
  go_wp2_with (go_at_call 30; refine (isIndex_any _ _ _).mono ?_; rintro e w1 ⟨rfl, rfl⟩)
  go_ret
  refine ⟨?_, rfl⟩
  rw [show decide (x ≤ 10) = decide (x < 11) from decide_eq_decide.2 (by omega)]
  rfl

/-- Levels and a level among them. -/
def VrOk (m v : Int) : Prop := 0 ≤ m ∧ m ≤ 10 ∧ 0 ≤ v ∧ v < m
instance (m v : Int) : Decidable (VrOk m v) := inferInstanceAs (Decidable (_ ∧ _))
def vrL (m v : Int) : Int := if VrOk m v then m else 0
def vrR (m v : Int) : Int := if VrOk m v then 2 else 0
def vrN (m v : Int) : Nat := if VrOk m v then 1 else 0
def vrF (_ v : Int) (j : Nat) : Int := if j = 0 then v else if j = 1 then 0 else 1
def vrB (m v : Int) : Bool := decide (VrOk m v)
theorem vrN_le (m v : Int) : vrN m v ≤ 1048576 := by unfold vrN; split <;> omega

def CoOk (m : Int) : Prop := 0 ≤ m ∧ m ≤ 10
instance (m : Int) : Decidable (CoOk m) := inferInstanceAs (Decidable (_ ∧ _))
def coL (m : Int) (_ : Bool) : Int := if CoOk m then m else 0
def coR (m : Int) (b : Bool) : Int := if CoOk m then (if b then 1 else 0) else 0
def coN (_ : Int) (_ : Bool) : Nat := 0
def coF (_ : Int) (_ : Bool) (_ : Nat) : Int := 0
def coB (m : Int) (_ : Bool) : Bool := decide (CoOk m)
theorem coN_le (m : Int) (b : Bool) : coN m b ≤ 1048576 := Nat.zero_le _

end Go.Proofs.YtmobcahfalaaeaaDoor
