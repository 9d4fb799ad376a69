/-
  Moments of a distribution, the mathematics.
-/
import Derived.Test.YtlfghhmphgidjaaGreatDoorDistP
namespace Go.Proofs.YtlfghhmphgidjaaGreatDoor
open Go.RowKit Num

/-- The power of a value, 1 or 2. -/
def powV (two : Bool) (v : Int) : Int := if two = true then v * v else v

/-- A power of the value times the mass. -/
def momQ (F : Nat → Int × Bool × ByteArray × ByteArray) (two : Bool) (j : Nat) : Bool × Nat × Nat :=
  mulO (decide (powV two (F j).1 < 0)) (powV two (F j).1).natAbs 1 (massQ F j).1 (massQ F j).2.1 (massQ F j).2.2

/-- The sum of the first n of them. -/
def momT (F : Nat → Int × Bool × ByteArray × ByteArray) (two : Bool) (n : Nat) : Bool × Nat × Nat := sumR (momQ F two) 0 n

theorem powV_fit (two : Bool) (v : Int) (h1 : -1000 ≤ v) (h2 : v ≤ 1000) : -1000 ≤ powV two v ∧ powV two v ≤ 1000000 := by
  unfold powV
  cases two with
  | false => simp; omega
  | true =>
    simp only [if_true]
    have h3 : v * v = (v.natAbs : Int) * (v.natAbs : Int) := by rw [← Int.natAbs_mul_self' v]
    have h4 : v.natAbs ≤ 1000 := by omega
    have h5 : v.natAbs * v.natAbs ≤ 1000 * 1000 := Nat.mul_le_mul h4 h4
    rw [h3]
    constructor
    · have : (0 : Int) ≤ (v.natAbs : Int) * (v.natAbs : Int) := Int.mul_nonneg (by omega) (by omega)
      omega
    · have : ((v.natAbs * v.natAbs : Nat) : Int) ≤ ((1000 * 1000 : Nat) : Int) := Int.ofNat_le.2 h5
      rw [Int.natCast_mul] at this
      omega

theorem momQ_fit {F : Nat → Int × Bool × ByteArray × ByteArray} {two : Bool} {j : Nat} (h : ptOk F j = true) : LowO (momQ F two j) ∧ (momQ F two j).2.1 ≤ 1000000 * capN ∧ (momQ F two j).2.2 ≤ capN := by
  obtain ⟨⟨h1, h2⟩, _, h3, _, _⟩ := ptOk_parts h
  have hc := qOf_cap (F := massF F) (j := j) h3
  have hl := qOf_low (F := massF F) (j := j) h3
  have hp := powV_fit two (F j).1 h1 h2
  refine ⟨mulO_LowO _ _ _ _ _ _ Nat.one_pos hl.pos, ?_, ?_⟩
  · refine Nat.le_trans (Nat.div_le_self _ _) ?_
    exact Nat.mul_le_mul (by omega) hc.1
  · refine Nat.le_trans (Nat.div_le_self _ _) ?_
    rw [Nat.one_mul]
    exact hc.2

theorem million_cap : 1000000 * capN ≤ WB ^ 15 := by
  have h1 : (1000000 : Nat) ≤ WB := by unfold WB; omega
  calc 1000000 * capN ≤ WB * WB ^ 7 := Nat.mul_le_mul h1 capN_WB
    _ = WB ^ 8 := by rw [Nat.mul_comm, ← Nat.pow_succ]
    _ ≤ WB ^ 15 := Nat.pow_le_pow_right (Nat.le_trans (by decide) WB_two) (by decide)

theorem million_dec : 1000000 * capN ≤ 10000 ^ 32 := by
  calc 1000000 * capN ≤ 10000 ^ 2 * 10000 ^ 30 := Nat.mul_le_mul (by omega) capN_dec
    _ = 10000 ^ 32 := by rw [← Nat.pow_add]

theorem momQ_FitF {F : Nat → Int × Bool × ByteArray × ByteArray} {two : Bool} {n : Nat} (h : ptsOk F n = true) : FitF (momQ F two) 0 n := fun j hj => by
  rw [Nat.zero_add]
  obtain ⟨h1, h2, h3⟩ := momQ_fit (two := two) (ptsOk_at h hj)
  exact ⟨h1, Nat.le_trans h2 million_cap, Nat.le_trans h3 capN_B⟩

theorem momT_low {F : Nat → Int × Bool × ByteArray × ByteArray} {two : Bool} {n k : Nat} (h : ptsOk F n = true) (hk : k ≤ n) : LowO (momT F two k) :=
  sumR_low fun j hj => by rw [Nat.zero_add]; exact (momQ_fit (ptsOk_at h (by omega))).1

theorem momT_ln {F : Nat → Int × Bool × ByteArray × ByteArray} {two : Bool} {n k : Nat} (h : ptsOk F n = true) (hk : k ≤ n) (hn : k ≤ 60) :
    ln 10000 (momT F two k).2.1 ≤ 10000 ∧ ln 10000 (momT F two k).2.2 ≤ 10000 := by
  have hm : 2 ≤ 1000000 * capN := Nat.le_trans capN_two (Nat.le_mul_of_pos_left _ (by decide))
  obtain ⟨h1, h2⟩ := sumR_fit hm (F := momQ F two) (a := 0) (k := k) fun j hj => by
    rw [Nat.zero_add]
    obtain ⟨_, q2, q3⟩ := momQ_fit (two := two) (ptsOk_at h (show j < n by omega))
    exact ⟨q2, Nat.le_trans q3 (Nat.le_mul_of_pos_left _ (by decide))⟩
  have e1 := ln_of_pow (by omega : 2 ≤ 10000) million_dec h1
  have e2 := ln_of_pow (by omega : 2 ≤ 10000) million_dec h2
  show ln 10000 (sumR (momQ F two) 0 k).2.1 ≤ 10000 ∧ ln 10000 (sumR (momQ F two) 0 k).2.2 ≤ 10000
  exact ⟨by omega, by omega⟩

theorem pow_ln {x : Nat} (h : x ≤ 1000000) : ln 10000 x ≤ 3 := ln_le_of_lt _ _ _ (by omega) (by omega)

/-- What Expectation answers. -/
def expRes (F : Nat → Int × Bool × ByteArray × ByteArray) (n : Nat) : Value :=
  if distOk F n = true then ratRes (momT F false n).1 (momT F false n).2.1 (momT F false n).2.2 else noRat

theorem expRes_shape (F : Nat → Int × Bool × ByteArray × ByteArray) (n : Nat) : ∃ rb rx ry rc, expRes F n = .tuple #[.agg #[.bool rb, .string rx, .string ry], .bool rc] := by
  unfold expRes
  split
  · exact ratRes_shape _ _ _
  · exact ⟨false, ⟨#[]⟩, ⟨#[]⟩, false, rfl⟩

end Go.Proofs.YtlfghhmphgidjaaGreatDoor
