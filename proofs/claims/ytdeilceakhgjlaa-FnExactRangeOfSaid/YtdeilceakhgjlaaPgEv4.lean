/-
  The values of a list of expressions, one after another.
-/
import Derived.Test.YtdeilceakhgjlaaPgEv3
namespace Go.Proofs.Ytdeilceakhgjlaa
open Go.RowKit Num

/-- After k rounds the first k expressions have their values, and the others none. -/
def evs (F : Nat → Nat → Int) (f : Nat → Int) : Nat → Nat → Int
  | 0, _ => 0
  | k + 1, j => if j = k then exV (F k 0) (F k 1) (F k 2) (F k 3) (evs F f k) f else evs F f k j

theorem exsOk_at {F : Nat → Nat → Int} {m : Nat} : ∀ {n k : Nat}, exsOk F m n = true → k < n → exOk (F k 0) (F k 1) (F k 2) (F k 3) k m = true
  | 0, _, _, h => absurd h (Nat.not_lt_zero _)
  | n + 1, k, h, hk => by
    simp only [exsOk, Bool.and_eq_true] at h
    by_cases e : k = n
    · subst e
      exact h.2
    · exact exsOk_at h.1 (by omega)

theorem opV_20 {op a b : Int} (ha : 0 ≤ a ∧ a ≤ 20) (hb : 0 ≤ b ∧ b ≤ 20) : 0 ≤ opV op a b ∧ opV op a b ≤ 20 := by
  rcases opV_small (op := op) ha.1 hb.1 with h | rfl
  · exact h
  · have e : opV 4 a b = max (a - b) 0 := by simp [opV]
    rw [e]
    omega

theorem exV_20 {op a b v : Int} {k m : Nat} {g f : Nat → Int} (ho : exOk op a b v k m = true) (hg : ∀ j, 0 ≤ g j ∧ g j ≤ 20) (hf : ∀ j, j < m → 0 ≤ f j ∧ f j ≤ 20) : 0 ≤ exV op a b v g f ∧ exV op a b v g f ≤ 20 := by
  by_cases o1 : op = 1
  · subst o1
    simp only [exOk, if_true, decide_eq_true_eq] at ho
    simp only [exV, if_true]
    omega
  · by_cases o2 : op = 2
    · subst o2
      simp only [exOk, if_neg o1, if_true, decide_eq_true_eq] at ho
      simp only [exV, if_neg o1, if_true]
      exact hf _ (by omega)
    · simp only [exV, if_neg o1, if_neg o2]
      exact opV_20 (hg _) (hg _)

theorem evs_20 {F : Nat → Nat → Int} {f : Nat → Int} {m n : Nat} (h : exsOk F m n = true) (hf : ∀ j, j < m → 0 ≤ f j ∧ f j ≤ 20) : ∀ {k : Nat}, k ≤ n → ∀ j, 0 ≤ evs F f k j ∧ evs F f k j ≤ 20
  | 0, _, _ => by simp only [evs]; omega
  | k + 1, hk, j => by
    simp only [evs]
    split
    · exact exV_20 (exsOk_at h (by omega)) (evs_20 h hf (by omega)) hf
    · exact evs_20 h hf (by omega) j

end Go.Proofs.Ytdeilceakhgjlaa
