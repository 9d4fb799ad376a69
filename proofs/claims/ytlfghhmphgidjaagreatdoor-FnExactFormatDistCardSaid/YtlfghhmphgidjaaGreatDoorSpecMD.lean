/-
  The model's MulRat and DivRat, whatever the two Rats.
-/
import Derived.Test.YtlfghhmphgidjaaGreatDoorImplSum
namespace Go.Proofs.YtlfghhmphgidjaaGreatDoor
open Go.RowKit Num

theorem mulO_low (b1 : Bool) (n1 d1 : Nat) (b2 : Bool) (n2 d2 : Nat) (p1 : 0 < d1) (p2 : 0 < d2) (hS : ln 10000 (n1 * n2) ≤ 549755813888) (hD : ln 10000 (d1 * d2) ≤ 549755813888) :
    LowQ (mulO b1 n1 d1 b2 n2 d2).1 (mulO b1 n1 d1 b2 n2 d2).2.1 (mulO b1 n1 d1 b2 n2 d2).2.2 := by
  have hp := Nat.mul_pos p1 p2
  unfold mulO
  refine ⟨low_pos hp, low_gcd hp, fun h => ?_, ?_, ?_⟩
  · simp only [Bool.and_eq_true, decide_eq_true_eq] at h
    exact low_num h.2 hp
  · exact Nat.le_trans (ln_mono 10000 _ _ (by omega) (Nat.div_le_self _ _)) hS
  · exact Nat.le_trans (ln_mono 10000 _ _ (by omega) (Nat.div_le_self _ _)) hD

/-- What DivRat answers. -/
def divRes (b1 : Bool) (x1 y1 : ByteArray) (b2 : Bool) (x2 y2 : ByteArray) : Value :=
  if (validR b1 x1 y1 && validR b2 x2 y2 && decide (0 < numOf x2)) = true then ratRes (mulO b1 (numOf x1) (numOf y1) b2 (numOf y2) (numOf x2)).1 (mulO b1 (numOf x1) (numOf y1) b2 (numOf y2) (numOf x2)).2.1 (mulO b1 (numOf x1) (numOf y1) b2 (numOf y2) (numOf x2)).2.2 else noRat

theorem divRes_shape (b1 : Bool) (x1 y1 : ByteArray) (b2 : Bool) (x2 y2 : ByteArray) : ∃ b x y c, divRes b1 x1 y1 b2 x2 y2 = .tuple #[.agg #[.bool b, .string x, .string y], .bool c] := by
  unfold divRes
  split
  · exact ratRes_shape _ _ _
  · exact ⟨_, _, _, _, rfl⟩

/-- A numeral is "0" exactly if it reads as 0. -/
theorem zero_text {s : ByteArray} (h : isNum s = true) : (s.toList == [48]) = decide (numOf s = 0) := by
  unfold isNum at h
  obtain ⟨⟨g1, g2⟩, gd, gz⟩ := of_decide_eq_true h
  have key : numOf s = 0 ↔ s.size = 1 ∧ byt s 0 = 48 := by
    unfold numOf
    have h0 := gd 0 (by omega)
    rw [Read.rd_small (dgt s) s.size 0 (by omega) (by omega) (by
      rcases gz with e | e
      · left; unfold dgt; omega
      · right; exact e)]
    unfold dgt
    constructor
    · rintro ⟨e, k⟩; exact ⟨e, by omega⟩
    · rintro ⟨e, k⟩; exact ⟨e, by omega⟩
  rw [Bool.eq_iff_iff, beq_iff_eq, decide_eq_true_eq, list_zero, key]

end Go.Proofs.YtlfghhmphgidjaaGreatDoor
