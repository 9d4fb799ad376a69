/-
  IsValidExprs: the model's and the program's, and the law.
-/
import Derived.Test.YtamjfcckgeakfaaExprS3
import Derived.Deep.LoopGhost
import Derived.Deep.DeepCutAuto
import Derived.Deep.RegionHeld3
namespace Go.Proofs.Ytamjfcckgeakfaa
open Go.RowKit Num

theorem below_of_alloc {w w1 : World} {o : Obj} (h : Below (w.alloc o).heap.size (w.alloc o) w1) : Below w.heap.size w w1 :=
  ((Below.refl _ w).alloc (Nat.le_refl _) o).trans (h.mono (by simp))

/-- The first k expressions are valid for m variables. -/
def exsOk (F : Nat → Nat → Int) (m : Nat) : Nat → Bool
  | 0 => true
  | k + 1 => exsOk F m k && exOk (F k 0) (F k 1) (F k 2) (F k 3) k m

theorem exsOk_up {F : Nat → Nat → Int} {m k n : Nat} (h : k ≤ n) (h0 : exsOk F m k = false) : exsOk F m n = false := by
  induction n with
  | zero => obtain rfl : k = 0 := by omega
            exact h0
  | succ n ih =>
    by_cases hk : k ≤ n
    · show (exsOk F m n && _) = false
      rw [ih hk]; rfl
    · obtain rfl : k = n + 1 := by omega
      exact h0

theorem l3In_any (n lo hi : Int) (w : World) :
    Calls Try.prog 40 #[.int .i64 n, .int .i64 lo, .int .i64 hi] w fun e w' => e = .returned (.bool (decide (lo ≤ n ∧ n ≤ hi))) ∧ w = w' := by
  by_cases h1 : lo ≤ n
  · have e : decide (lo ≤ n ∧ n ≤ hi) = decide (n ≤ hi) := by simp [h1]
    have h1' : (decide (lo ≤ n)) = true := decide_eq_true h1
    rw [e]
    go_enter Try.func40, Try.ntmps40
    go_wp2
    go_ret
    exact ⟨rfl, rfl⟩
  · have e : decide (lo ≤ n ∧ n ≤ hi) = false := by simp [h1]
    have h1' : (decide (lo ≤ n)) = false := decide_eq_false h1
    rw [e]
    go_enter Try.func40, Try.ntmps40
    go_wp2
    go_ret
    exact ⟨rfl, rfl⟩

/-- Whether a list of expressions is valid. -/
def exsRes (F : Nat → Nat → Int) (n : Nat) (m : Int) : Bool := decide (0 ≤ m ∧ m ≤ 5) && (decide (n ≤ 40) && exsOk F m.toNat n)

theorem ExAt.cells {w : World} {b off n : Nat} {F : Nat → Nat → Int} (h : ExAt w (some ⟨b, off, none⟩) n F) {j : Nat} (hj : j < n) :
    w.cell? ⟨b, off + j * 4, none⟩ = some (.int .i64 (F j 0)) ∧ w.cell? ⟨b, off + j * 4 + 1, none⟩ = some (.int .i64 (F j 1)) ∧ w.cell? ⟨b, off + j * 4 + 2, none⟩ = some (.int .i64 (F j 2)) ∧ w.cell? ⟨b, off + j * 4 + 3, none⟩ = some (.int .i64 (F j 3)) := by
  obtain ⟨b', off', he, _, h0, h1, h2, h3⟩ := h.at_ hj
  injection he with he
  injection he with e1 e2 _
  subst e1 e2
  exact ⟨h0, h1, h2, h3⟩

theorem hold8 {W w' : World} {b off b' off' n j : Nat} {F : Nat → Nat → Int} (h : ExAt W (some ⟨b, off, none⟩) n F) (k : ExAt W (some ⟨b', off', none⟩) n F) (hj : j < n) (hb : Below W.heap.size W w') :
    w'.cell? ⟨b, off + j * 4, none⟩ = some (.int .i64 (F j 0)) ∧ w'.cell? ⟨b, off + j * 4 + 1, none⟩ = some (.int .i64 (F j 1)) ∧ w'.cell? ⟨b, off + j * 4 + 2, none⟩ = some (.int .i64 (F j 2)) ∧ w'.cell? ⟨b, off + j * 4 + 3, none⟩ = some (.int .i64 (F j 3)) ∧
    w'.cell? ⟨b', off' + j * 4, none⟩ = some (.int .i64 (F j 0)) ∧ w'.cell? ⟨b', off' + j * 4 + 1, none⟩ = some (.int .i64 (F j 1)) ∧ w'.cell? ⟨b', off' + j * 4 + 2, none⟩ = some (.int .i64 (F j 2)) ∧ w'.cell? ⟨b', off' + j * 4 + 3, none⟩ = some (.int .i64 (F j 3)) ∧ Below W.heap.size W w' := by
  obtain ⟨h0, h1, h2, h3⟩ := (h.below hb (Nat.le_refl _)).cells hj
  obtain ⟨k0, k1, k2, k3⟩ := (k.below hb (Nat.le_refl _)).cells hj
  exact ⟨h0, h1, h2, h3, k0, k1, k2, k3, hb⟩
theorem hold8_below {W w' : World} {p1 p2 p3 p4 p5 p6 p7 p8 : Prop} (h : p1 ∧ p2 ∧ p3 ∧ p4 ∧ p5 ∧ p6 ∧ p7 ∧ p8 ∧ Below W.heap.size W w') : Below W.heap.size W w' := h.2.2.2.2.2.2.2.2
theorem step8 {W w1 w2 : World} (h : Below W.heap.size W w1) (k : Below w1.heap.size w1 w2) : Below W.heap.size W w2 := h.trans (k.mono h.size)

end Go.Proofs.Ytamjfcckgeakfaa
