/-
  Sums of lists of fractions: how they may be bracketed, and how long they become. (Pure.)
-/
import Derived.Test.YtmmonglcbkefmaaGreatDoorSumP
namespace Go.Proofs.YtmmonglcbkefmaaGreatDoor
open Go.RowKit Num

/-- The sum of the k fractions from place a on, in their order. -/
def sumR (F : Nat → Bool × Nat × Nat) (a : Nat) : Nat → Bool × Nat × Nat
  | 0 => (false, 0, 1)
  | k + 1 => addO (sumR F a k).1 (sumR F a k).2.1 (sumR F a k).2.2 (F (a + k)).1 (F (a + k)).2.1 (F (a + k)).2.2

theorem low_nought : LowO (false, 0, 1) := ⟨Nat.one_pos, Nat.gcd_one_right 0, fun h => by cases h⟩

theorem sumR_low {F : Nat → Bool × Nat × Nat} {a k : Nat} (hF : ∀ j, j < k → LowO (F (a + j))) : LowO (sumR F a k) := by
  induction k with
  | zero => exact low_nought
  | succ k ih => exact addO_LowO _ _ _ _ _ _ (ih fun j hj => hF j (by omega)).pos (hF k (by omega)).pos

theorem sumR_one {F : Nat → Bool × Nat × Nat} {a : Nat} (h : LowO (F a)) : sumR F a 1 = F a := by
  show addO false 0 1 (F (a + 0)).1 (F (a + 0)).2.1 (F (a + 0)).2.2 = F a
  rw [Nat.add_zero, addO_comm _ _ _ _ _ _ Nat.one_pos h.pos]
  exact addO_nought _ _ _ h

theorem sumR_split {F : Nat → Bool × Nat × Nat} {a : Nat} (h m : Nat) (hF : ∀ j, j < h + m → LowO (F (a + j))) :
    addO (sumR F a h).1 (sumR F a h).2.1 (sumR F a h).2.2 (sumR F (a + h) m).1 (sumR F (a + h) m).2.1 (sumR F (a + h) m).2.2 = sumR F a (h + m) := by
  have hl : LowO (sumR F a h) := sumR_low fun j hj => hF j (by omega)
  induction m with
  | zero => exact addO_nought _ _ _ hl
  | succ m ih =>
    have e := ih (fun j hj => hF j (by omega))
    have hm : LowO (sumR F (a + h) m) := sumR_low fun j hj => by rw [Nat.add_assoc]; exact hF (h + j) (by omega)
    have hf : LowO (F (a + h + m)) := by rw [Nat.add_assoc]; exact hF (h + m) (by omega)
    show addO _ _ _ (addO (sumR F (a + h) m).1 (sumR F (a + h) m).2.1 (sumR F (a + h) m).2.2 (F (a + h + m)).1 (F (a + h + m)).2.1 (F (a + h + m)).2.2).1 (addO (sumR F (a + h) m).1 (sumR F (a + h) m).2.1 (sumR F (a + h) m).2.2 (F (a + h + m)).1 (F (a + h + m)).2.1 (F (a + h + m)).2.2).2.1 (addO (sumR F (a + h) m).1 (sumR F (a + h) m).2.1 (sumR F (a + h) m).2.2 (F (a + h + m)).1 (F (a + h + m)).2.1 (F (a + h + m)).2.2).2.2 = addO (sumR F a (h + m)).1 (sumR F a (h + m)).2.1 (sumR F a (h + m)).2.2 (F (a + (h + m))).1 (F (a + (h + m))).2.1 (F (a + (h + m))).2.2
    rw [← addO_assoc _ _ _ _ _ _ _ _ _ hl.pos hm.pos hf.pos, e, Nat.add_assoc]

/-- The size of a sum of k numbers, none of whose parts is greater than M. -/
structure SumFit (M k : Nat) (o : Bool × Nat × Nat) : Prop where
  num : o.2.1 ≤ M ^ (2 * k)
  den : o.2.2 ≤ M ^ k

theorem sgn_le (b1 : Bool) (x : Nat) (b2 : Bool) (y : Nat) : (sgnSum b1 x b2 y).2 ≤ x + y := by
  unfold sgnSum
  split
  · exact Nat.le_refl _
  · split <;> simp only <;> omega

theorem addO_num_le (b1 : Bool) (n1 d1 : Nat) (b2 : Bool) (n2 d2 : Nat) : (addO b1 n1 d1 b2 n2 d2).2.1 ≤ n1 * d2 + n2 * d1 := by
  unfold addO
  exact Nat.le_trans (Nat.div_le_self _ _) (sgn_le _ _ _ _)
theorem addO_den_le (b1 : Bool) (n1 d1 : Nat) (b2 : Bool) (n2 d2 : Nat) : (addO b1 n1 d1 b2 n2 d2).2.2 ≤ d1 * d2 := by
  unfold addO
  exact Nat.div_le_self _ _

theorem sumR_fit {M : Nat} (hM : 2 ≤ M) {F : Nat → Bool × Nat × Nat} {a k : Nat} (hF : ∀ j, j < k → (F (a + j)).2.1 ≤ M ∧ (F (a + j)).2.2 ≤ M) : SumFit M k (sumR F a k) := by
  induction k with
  | zero => exact ⟨Nat.zero_le _, Nat.le_refl _⟩
  | succ k ih =>
    obtain ⟨hn, hd⟩ := ih fun j hj => hF j (by omega)
    obtain ⟨fn, fd⟩ := hF k (by omega)
    have hp : 0 < M := by omega
    refine ⟨Nat.le_trans (addO_num_le _ _ _ _ _ _) ?_, Nat.le_trans (addO_den_le _ _ _ _ _ _) ?_⟩
    · have h1 : (sumR F a k).2.1 * (F (a + k)).2.2 ≤ M ^ (2 * k) * M := Nat.mul_le_mul hn fd
      have h2 : (F (a + k)).2.1 * (sumR F a k).2.2 ≤ M * M ^ k := Nat.mul_le_mul fn hd
      have h3 : M ^ k ≤ M ^ (2 * k) := Nat.pow_le_pow_right hp (by omega)
      have h4 : M * M ^ k ≤ M ^ (2 * k) * M := by rw [Nat.mul_comm]; exact Nat.mul_le_mul_right M h3
      have h5 : M ^ (2 * (k + 1)) = M ^ (2 * k) * M * M := by rw [show 2 * (k + 1) = 2 * k + 1 + 1 by omega, Nat.pow_succ, Nat.pow_succ]
      rw [h5]
      have h6 : M ^ (2 * k) * M * 2 ≤ M ^ (2 * k) * M * M := Nat.mul_le_mul_left _ hM
      omega
    · rw [Nat.pow_succ]; exact Nat.mul_le_mul hd fd

theorem ln_of_pow {b M e k x : Nat} (hb : 2 ≤ b) (hM : M ≤ b ^ e) (hx : x ≤ M ^ k) : ln b x ≤ e * k + 1 := by
  refine ln_le_of_lt b x _ hb (Nat.lt_of_le_of_lt (Nat.le_trans hx (Nat.pow_le_pow_left hM k)) ?_)
  rw [← Nat.pow_mul]
  exact Nat.pow_lt_pow_right (by omega) (by omega)

end Go.Proofs.YtmmonglcbkefmaaGreatDoor
