/-
  Decision diagrams, plain mathematics: an index with one bit fixed.
-/
import Derived.Test.YtamjfcckgeakfaaDgBm
namespace Go.Proofs.Ytamjfcckgeakfaa
open Go.RowKit Num
namespace Dg

/-- j with its bit p fixed to b. -/
def fx (p : Nat) (b : Bool) (j : Nat) : Nat := (j / 2 ^ (p + 1) * 2 + b.toNat) * 2 ^ p + j % 2 ^ p

theorem fx_div (p : Nat) (b : Bool) (j : Nat) : fx p b j / 2 ^ p = j / 2 ^ (p + 1) * 2 + b.toNat := by
  have hp : 0 < 2 ^ p := Nat.pow_pos (by omega)
  unfold fx
  rw [Nat.add_comm, Nat.add_mul_div_right _ _ hp, Nat.div_eq_of_lt (Nat.mod_lt _ hp), Nat.zero_add]

theorem fx_mod (p : Nat) (b : Bool) (j : Nat) : fx p b j % 2 ^ p = j % 2 ^ p := by
  unfold fx
  rw [Nat.add_comm, Nat.add_mul_mod_self_right, Nat.mod_mod]

theorem fx_at (p : Nat) (b : Bool) (j : Nat) : fx p b j / 2 ^ p % 2 = b.toNat := by
  rw [fx_div]
  cases b <;> simp <;> omega

theorem fx_high (p : Nat) (b : Bool) (j q : Nat) (h : p < q) : fx p b j / 2 ^ q = j / 2 ^ q := by
  obtain ⟨d, rfl⟩ : ∃ d, q = p + 1 + d := ⟨q - (p + 1), by omega⟩
  have e : fx p b j / 2 ^ (p + 1) = j / 2 ^ (p + 1) := by
    rw [Nat.pow_succ, ← Nat.div_div_eq_div_mul, fx_div, Nat.pow_succ]
    cases b <;> simp <;> omega
  rw [Nat.pow_add, ← Nat.div_div_eq_div_mul, ← Nat.div_div_eq_div_mul, e]

theorem bit_mod (x p q : Nat) (h : q < p) : x % 2 ^ p / 2 ^ q % 2 = x / 2 ^ q % 2 := by
  obtain ⟨d, rfl⟩ : ∃ d, p = q + 1 + d := ⟨p - (q + 1), by omega⟩
  rw [show 2 ^ (q + 1 + d) = 2 ^ q * (2 * 2 ^ d) by rw [Nat.pow_add, Nat.pow_succ, Nat.mul_assoc], Nat.mod_mul_right_div_self]
  exact Nat.mod_mul_right_mod _ _ _

theorem fx_low (p : Nat) (b : Bool) (j q : Nat) (h : q < p) : fx p b j / 2 ^ q % 2 = j / 2 ^ q % 2 := by
  rw [← bit_mod _ p q h, fx_mod, bit_mod _ p q h]

theorem fx_other (p : Nat) (b : Bool) (j q : Nat) (h : q ≠ p) : fx p b j / 2 ^ q % 2 = j / 2 ^ q % 2 := by
  rcases Nat.lt_or_gt_of_ne h with h | h
  · exact fx_low p b j q h
  · rw [fx_high p b j q h]

end Dg
end Go.Proofs.Ytamjfcckgeakfaa
