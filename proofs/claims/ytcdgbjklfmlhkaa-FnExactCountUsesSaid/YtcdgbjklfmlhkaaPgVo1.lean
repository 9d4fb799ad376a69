/-
  The variables of an expression, the mathematics: what is marked, round by round, and which variables are found.
-/
import Derived.Test.YtcdgbjklfmlhkaaPgAs1
import Derived.Test.YtcdgbjklfmlhkaaExprs3
namespace Go.Proofs.Ytcdgbjklfmlhkaa
open Go.RowKit Num

/-- Expression i marks its operands. -/
def stepU (F : Nat → Nat → Int) (i : Nat) (u : Nat → Bool) : Nat → Bool :=
  if u i = true ∧ F i 0 ≠ 1 ∧ F i 0 ≠ 2 then (if F i 0 = 10 then setU u (F i 1).toNat else setU (setU u (F i 1).toNat) (F i 2).toNat) else u
/-- What is marked after k rounds from e down. -/
def pt (F : Nat → Nat → Int) (e : Nat) : Nat → (Nat → Bool)
  | 0 => fun j => j == e
  | k + 1 => stepU F (e - k) (pt F e k)
/-- The variables found on the way down. -/
def vI (F : Nat → Nat → Int) (e : Nat) : Nat → (Nat → Bool)
  | 0 => fun _ => false
  | k + 1 => if pt F e k (e - k) = true ∧ F (e - k) 0 = 2 then setU (vI F e k) (F (e - k) 3).toNat else vI F e k
/-- The variables found among the marked ones, on the way up. -/
def vS (U : Nat → Bool) (F : Nat → Nat → Int) : Nat → (Nat → Bool)
  | 0 => fun _ => false
  | k + 1 => if U k = true ∧ F k 0 = 2 then setU (vS U F k) (F k 3).toNat else vS U F k

theorem setU_iff {u : Nat → Bool} {v j : Nat} : setU u v j = true ↔ u j = true ∨ j = v := by simp [setU]
theorem vS_iff (U : Nat → Bool) (F : Nat → Nat → Int) (v : Nat) : ∀ k, vS U F k v = true ↔ ∃ i, i < k ∧ U i = true ∧ F i 0 = 2 ∧ (F i 3).toNat = v
  | 0 => ⟨fun h => (by cases h), fun ⟨i, h, _⟩ => absurd h (Nat.not_lt_zero i)⟩
  | k + 1 => by
    rw [vS]
    by_cases h : U k = true ∧ F k 0 = 2
    · rw [if_pos h, setU_iff, vS_iff U F v k]
      constructor
      · rintro (⟨i, h1, h2⟩ | rfl)
        · exact ⟨i, by omega, h2⟩
        · exact ⟨k, by omega, h.1, h.2, rfl⟩
      · rintro ⟨i, h1, h2, h3, h4⟩
        by_cases hik : i = k
        · subst hik; exact .inr h4.symm
        · exact .inl ⟨i, by omega, h2, h3, h4⟩
    · rw [if_neg h, vS_iff U F v k]
      constructor
      · rintro ⟨i, h1, h2⟩; exact ⟨i, by omega, h2⟩
      · rintro ⟨i, h1, h2, h3, h4⟩
        by_cases hik : i = k
        · subst hik; exact absurd ⟨h2, h3⟩ h
        · exact ⟨i, by omega, h2, h3, h4⟩
theorem vI_iff (F : Nat → Nat → Int) (e v : Nat) : ∀ k, vI F e k v = true ↔ ∃ r, r < k ∧ pt F e r (e - r) = true ∧ F (e - r) 0 = 2 ∧ (F (e - r) 3).toNat = v
  | 0 => ⟨fun h => (by cases h), fun ⟨i, h, _⟩ => absurd h (Nat.not_lt_zero i)⟩
  | k + 1 => by
    rw [vI]
    by_cases h : pt F e k (e - k) = true ∧ F (e - k) 0 = 2
    · rw [if_pos h, setU_iff, vI_iff F e v k]
      constructor
      · rintro (⟨i, h1, h2⟩ | rfl)
        · exact ⟨i, by omega, h2⟩
        · exact ⟨k, by omega, h.1, h.2, rfl⟩
      · rintro ⟨i, h1, h2, h3, h4⟩
        by_cases hik : i = k
        · subst hik; exact .inr h4.symm
        · exact .inl ⟨i, by omega, h2, h3, h4⟩
    · rw [if_neg h, vI_iff F e v k]
      constructor
      · rintro ⟨i, h1, h2⟩; exact ⟨i, by omega, h2⟩
      · rintro ⟨i, h1, h2, h3, h4⟩
        by_cases hik : i = k
        · subst hik; exact absurd ⟨h2, h3⟩ h
        · exact ⟨i, by omega, h2, h3, h4⟩

theorem exsOk_in {F : Nat → Nat → Int} {m : Nat} : ∀ {n k : Nat}, exsOk F m n = true → k < n → exOk (F k 0) (F k 1) (F k 2) (F k 3) k m = true
  | 0, _, _, h => absurd h (Nat.not_lt_zero _)
  | n + 1, k, h, hk => by
    simp only [exsOk, Bool.and_eq_true] at h
    by_cases e : k = n
    · subst e
      exact h.2
    · exact exsOk_in h.1 (by omega)
/-- The operands come before. -/
theorem ops_below {F : Nat → Nat → Int} {m n i : Nat} (h : exsOk F m n = true) (hi : i < n) (h1 : F i 0 ≠ 1) (h2 : F i 0 ≠ 2) : (0 ≤ F i 1 ∧ F i 1 < (i : Int)) ∧ (F i 0 ≠ 10 → 0 ≤ F i 2 ∧ F i 2 < (i : Int)) ∧ (F i 0 = 10 → F i 2 = 0) ∧ 3 ≤ F i 0 ∧ F i 0 ≤ 10 := by
  have ho := exsOk_in h hi
  by_cases h10 : F i 0 = 10
  · simp only [exOk, if_neg h1, if_neg h2, if_pos h10, decide_eq_true_eq] at ho
    exact ⟨by omega, fun h => absurd h10 h, fun _ => by omega, by omega, by omega⟩
  · simp only [exOk, if_neg h1, if_neg h2, if_neg h10, decide_eq_true_eq] at ho
    exact ⟨by omega, fun _ => by omega, fun h => absurd h h10, by omega, by omega⟩
theorem pt_stable {F : Nat → Nat → Int} {m n e k j : Nat} (h : exsOk F m n = true) (he : e < n) (hj : e - k ≤ j) : pt F e (k + 1) j = pt F e k j := by
  rw [pt, stepU]
  split
  · rename_i hc
    obtain ⟨⟨a0, a1⟩, hb, _⟩ := ops_below h (show e - k < n by omega) hc.2.1 hc.2.2
    have ha : (j == (F (e - k) 1).toNat) = false := beq_eq_false_iff_ne.2 (by omega)
    split
    · rw [setU, ha, Bool.or_false]
    · rename_i h10
      have := hb h10
      have hb' : (j == (F (e - k) 2).toNat) = false := beq_eq_false_iff_ne.2 (by omega)
      rw [setU, hb', Bool.or_false, setU, ha, Bool.or_false]
  · rfl
theorem pt_up {F : Nat → Nat → Int} {m n e : Nat} (h : exsOk F m n = true) (he : e < n) {r : Nat} : ∀ d, pt F e (r + d) (e - r) = pt F e r (e - r)
  | 0 => rfl
  | d + 1 => by
    rw [← Nat.add_assoc, pt_stable h he (by omega)]
    exact pt_up h he d
/-- Both ways find the same variables. -/
theorem vars_same {F : Nat → Nat → Int} {m n e : Nat} (h : exsOk F m n = true) (he : e < n) (v : Nat) : vS (pt F e (e + 1)) F (e + 1) v = vI F e (e + 1) v := by
  rw [Bool.eq_iff_iff, vS_iff, vI_iff]
  constructor
  · rintro ⟨i, h1, h2, h3, h4⟩
    have hu := pt_up h he (r := e - i) (i + 1)
    rw [show e - i + (i + 1) = e + 1 by omega, show e - (e - i) = i by omega, h2] at hu
    exact ⟨e - i, by omega, by rw [show e - (e - i) = i by omega]; exact hu.symm, by rw [show e - (e - i) = i by omega]; exact h3, by rw [show e - (e - i) = i by omega]; exact h4⟩
  · rintro ⟨r, h1, h2, h3, h4⟩
    have hu := pt_up h he (r := r) (e + 1 - r)
    rw [show r + (e + 1 - r) = e + 1 by omega, h2] at hu
    exact ⟨e - r, by omega, hu, h3, h4⟩

end Go.Proofs.Ytcdgbjklfmlhkaa
