/-
  The program's isValidStmt. (Written by gen_pgis.py.)
-/
import Derived.Test.YtoaiejodbmkbjaaGreatDoorPgIm4
import Derived.Deep.RegionHeld3
namespace Go.Proofs.YtoaiejodbmkbjaaGreatDoor
open Go.RowKit Num

/-- The statements in a statement's blocks come behind it. -/
def AftOk (P : Prg) (i : Nat) : Prop := (∀ j, j < (P.st i).nt → (i : Int) < (P.st i).th j) ∧ ∀ j, j < (P.st i).ne → (i : Int) < (P.st i).el j

theorem held8b {W W' : World} {p0 p1 p2 p3 p4 p5 p6 p7 : Prop} (h : p0 ∧ p1 ∧ p2 ∧ p3 ∧ p4 ∧ p5 ∧ p6 ∧ p7 ∧ Below W.heap.size W W') : Below W.heap.size W W' := h.2.2.2.2.2.2.2.2

end Go.Proofs.YtoaiejodbmkbjaaGreatDoor
