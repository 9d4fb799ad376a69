/-
  Distributions, the mathematics: which lists of points are valid, and their sum.
-/
import Derived.Test.YtlfghhmphgidjaaGreatDoorPts
import Derived.Test.YtlfghhmphgidjaaGreatDoorSumA
namespace Go.Proofs.YtlfghhmphgidjaaGreatDoor
open Go.RowKit Num

/-- The mass of point j. -/
def massF (F : Nat → Int × Bool × ByteArray × ByteArray) (j : Nat) : Bool × ByteArray × ByteArray := (F j).2

/-- Point i is sound, by itself and against the one before it. -/
def ptOk (F : Nat → Int × Bool × ByteArray × ByteArray) (i : Nat) : Bool :=
  decide (-1000 ≤ (F i).1 ∧ (F i).1 ≤ 1000) && !(decide (0 < i) && decide ((F i).1 ≤ (F (i - 1)).1)) && validR (F i).2.1 (F i).2.2.1 (F i).2.2.2 && !(F i).2.1 && !decide (numOf (F i).2.2.1 = 0)

/-- The first k points are sound. -/
def ptsOk (F : Nat → Int × Bool × ByteArray × ByteArray) : Nat → Bool
  | 0 => true
  | k + 1 => ptsOk F k && ptOk F k

theorem ptsOk_up {F : Nat → Int × Bool × ByteArray × ByteArray} {k n : Nat} (h : k ≤ n) (h0 : ptsOk F k = false) : ptsOk F n = false := by
  induction n with
  | zero => obtain rfl : k = 0 := by omega
            exact h0
  | succ n ih =>
    by_cases hk : k ≤ n
    · show (ptsOk F n && _) = false
      rw [ih hk]; rfl
    · obtain rfl : k = n + 1 := by omega
      exact h0

theorem ptsOk_at {F : Nat → Int × Bool × ByteArray × ByteArray} {n j : Nat} (h : ptsOk F n = true) (hj : j < n) : ptOk F j = true := by
  cases hv : ptOk F j with
  | true => rfl
  | false =>
    have h1 : ptsOk F (j + 1) = false := by
      show (ptsOk F j && _) = false
      rw [hv, Bool.and_false]
    rw [ptsOk_up (show j + 1 ≤ n by omega) h1] at h
    cases h

theorem ptsOk_left {F : Nat → Int × Bool × ByteArray × ByteArray} {k n : Nat} (h : k ≤ n) (h0 : ptsOk F n = true) : ptsOk F k = true := by
  cases hk : ptsOk F k with
  | true => rfl
  | false => rw [ptsOk_up h hk] at h0; cases h0

theorem ptOk_parts {F : Nat → Int × Bool × ByteArray × ByteArray} {i : Nat} (h : ptOk F i = true) :
    (-1000 ≤ (F i).1 ∧ (F i).1 ≤ 1000) ∧ (0 < i → (F (i - 1)).1 < (F i).1) ∧ validR (F i).2.1 (F i).2.2.1 (F i).2.2.2 = true ∧ (F i).2.1 = false ∧ numOf (F i).2.2.1 ≠ 0 := by
  unfold ptOk at h
  simp only [Bool.and_eq_true, decide_eq_true_eq, Bool.not_eq_true', Bool.and_eq_false_iff, decide_eq_false_iff_not] at h
  refine ⟨h.1.1.1.1, fun hi => ?_, h.1.1.2, h.1.2, h.2⟩
  rcases h.1.1.1.2 with h' | h'
  · exact absurd hi h'
  · omega

theorem ptsOk_rats {F : Nat → Int × Bool × ByteArray × ByteArray} {n : Nat} (h : ptsOk F n = true) : ratsOk (massF F) n = true := by
  induction n with
  | zero => rfl
  | succ n ih =>
    show (ratsOk (massF F) n && validR (F n).2.1 (F n).2.2.1 (F n).2.2.2) = true
    rw [ih (ptsOk_left (Nat.le_succ n) h), (ptOk_parts (ptsOk_at h (Nat.lt_succ_self n))).2.2.1]
    rfl

/-- The masses as fractions. -/
def massQ (F : Nat → Int × Bool × ByteArray × ByteArray) : Nat → Bool × Nat × Nat := qOf (massF F)
/-- The sum of the first n masses. -/
def total (F : Nat → Int × Bool × ByteArray × ByteArray) (n : Nat) : Bool × Nat × Nat := sumR (massQ F) 0 n

/-- The points are a distribution. -/
def distOk (F : Nat → Int × Bool × ByteArray × ByteArray) (n : Nat) : Bool := (decide (n ≤ 60) && ptsOk F n) && decide ((total F n).2.1 ≤ (total F n).2.2)

theorem sumR_pos {G : Nat → Bool × Nat × Nat} {a k : Nat} (h : ∀ j, j < k → (G (a + j)).1 = false) : (sumR G a k).1 = false := by
  induction k with
  | zero => rfl
  | succ k ih =>
    have h1 := ih fun j hj => h j (by omega)
    have h2 := h k (by omega)
    show (addO _ _ _ _ _ _).1 = false
    rw [h1, h2]
    simp [addO, sgnSum]

theorem total_pos {F : Nat → Int × Bool × ByteArray × ByteArray} {n : Nat} (h : ptsOk F n = true) : (total F n).1 = false :=
  sumR_pos fun j hj => by rw [Nat.zero_add]; exact (ptOk_parts (ptsOk_at h hj)).2.2.2.1

theorem total_low {F : Nat → Int × Bool × ByteArray × ByteArray} {n : Nat} (h : ptsOk F n = true) : LowO (total F n) := sumQ_low (ptsOk_rats h) (by omega)

theorem cmp_one (N D : Nat) : decide (cmpR false N D false 1 1 ≤ 0) = decide (N ≤ D) := by
  unfold cmpR cmpI
  simp only [Bool.false_eq_true, if_false, if_true, Nat.mul_one, Nat.one_mul]
  by_cases h : N ≤ D
  · rw [decide_eq_true h, decide_eq_true_iff]
    split
    · omega
    · split <;> omega
  · rw [decide_eq_false h, decide_eq_false_iff_not, if_neg (by omega), if_pos (by omega)]
    omega

end Go.Proofs.YtlfghhmphgidjaaGreatDoor
