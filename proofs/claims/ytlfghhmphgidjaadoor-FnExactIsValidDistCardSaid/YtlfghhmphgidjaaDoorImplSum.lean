/-
  Several texts in one: ImplAdd, NegF, ImplSub, SpecAny.
-/
import Derived.Test.YtlfghhmphgidjaaDoorAddFO
import Derived.Test.YtlfghhmphgidjaaDoorDecAll
import Derived.Test.YtlfghhmphgidjaaDoorSpecOps
/-
  The program's AddRat.
-/
namespace Go.Proofs.YtlfghhmphgidjaaDoor
open Go.RowKit Num

/-- What an operation on two Rats hands back. -/
def opRes (b1 : Bool) (x1 y1 : ByteArray) (b2 : Bool) (x2 y2 : ByteArray) (o : Bool × Nat × Nat) : Value :=
  if (validR b1 x1 y1 && validR b2 x2 y2) = true then ratRes o.1 o.2.1 o.2.2 else noRat

theorem validR_gcd {b : Bool} {x y : ByteArray} (h : validR b x y = true) : Nat.gcd (numOf x) (numOf y) = 1 := by
  unfold validR at h
  simp only [Bool.and_eq_true, decide_eq_true_eq] at h
  exact h.2

theorem ln_capS {s : ByteArray} (h : isNum s = true) : ln WB (numOf s) ≤ 7 := ln_le_of_lt WB _ 7 (by unfold WB; omega) (Nat.lt_of_lt_of_le (numOf_lt h) pow120)

end Go.Proofs.YtlfghhmphgidjaaDoor
/-
  The program's negative of a fraction.
-/
namespace Go.Proofs.YtlfghhmphgidjaaDoor
open Go.RowKit Num

theorem isZero_any (b : Bool) (v1 v2 : Value) (n d : Nat) (w : World) (h1 : Nums 76 .u64 WB w v1 n) (h2 : Nums 76 .u64 WB w v2 d) :
    Calls Tryd.prog 21 #[.agg #[.bool b, v1, v2]] w fun e w' => e = .returned (.bool (decide (n = 0))) ∧ Below w.heap.size w w' := by
  obtain ⟨A1, c1, rfl, _, _, _⟩ := RowF.open h1
  obtain ⟨A2, c2, rfl, _, _, _⟩ := RowF.open h2
  have hv : decide (n = 0) = ((ln WB n : Int) == 0) := by
    by_cases h : n = 0
    · subst h; rw [ln_zero]; rfl
    · have := lnz (b := WB) WB_two (by omega : 0 < n)
      rw [decide_eq_false h]; symm; simp; omega
  rw [hv]
  clear hv h1 h2
  go_enter Tryd.func21, Tryd.ntmps21
  go_wp2_with fail
  go_ret
  exact ⟨rfl, (Below.refl _ w).alloc (Nat.le_refl _) _⟩

end Go.Proofs.YtlfghhmphgidjaaDoor
/-
  The program's SubRat.
-/
namespace Go.Proofs.YtlfghhmphgidjaaDoor
open Go.RowKit Num

theorem holdG {W w' : World} {B G H Q : Nat} {t u q : TypeId} {a b c d e f : Value} (h : Box w' G t #[a, b, c]) (k : Box w' H u #[d, e, f]) (hb : Below B W w') (hq : Boxy w' Q q) :
    w'.cell? ⟨G, 0, none⟩ = some a ∧ w'.cell? ⟨G, 1, none⟩ = some b ∧ w'.cell? ⟨G, 2, none⟩ = some c ∧ w'.cell? ⟨H, 0, none⟩ = some d ∧ w'.cell? ⟨H, 1, none⟩ = some e ∧ w'.cell? ⟨H, 2, none⟩ = some f ∧ Box w' G t #[a, b, c] ∧ Box w' H u #[d, e, f] ∧ Below B W w' ∧ Boxy w' Q q := by
  obtain ⟨h1, h2, h3, _⟩ := h.three
  obtain ⟨k1, k2, k3, _⟩ := k.three
  exact ⟨h1, h2, h3, k1, k2, k3, h, k, hb, hq⟩
theorem holdG1 {W w' : World} {B G H Q : Nat} {t u q : TypeId} {x y : Array Value} {p1 p2 p3 p4 p5 p6 : Prop} (h : p1 ∧ p2 ∧ p3 ∧ p4 ∧ p5 ∧ p6 ∧ Box w' G t x ∧ Box w' H u y ∧ Below B W w' ∧ Boxy w' Q q) : Box w' G t x := h.2.2.2.2.2.2.1
theorem holdG2 {W w' : World} {B G H Q : Nat} {t u q : TypeId} {x y : Array Value} {p1 p2 p3 p4 p5 p6 : Prop} (h : p1 ∧ p2 ∧ p3 ∧ p4 ∧ p5 ∧ p6 ∧ Box w' G t x ∧ Box w' H u y ∧ Below B W w' ∧ Boxy w' Q q) : Box w' H u y := h.2.2.2.2.2.2.2.1
theorem holdG3 {W w' : World} {B G H Q : Nat} {t u q : TypeId} {x y : Array Value} {p1 p2 p3 p4 p5 p6 : Prop} (h : p1 ∧ p2 ∧ p3 ∧ p4 ∧ p5 ∧ p6 ∧ Box w' G t x ∧ Box w' H u y ∧ Below B W w' ∧ Boxy w' Q q) : Below B W w' := h.2.2.2.2.2.2.2.2.1
theorem holdG4 {W w' : World} {B G H Q : Nat} {t u q : TypeId} {x y : Array Value} {p1 p2 p3 p4 p5 p6 : Prop} (h : p1 ∧ p2 ∧ p3 ∧ p4 ∧ p5 ∧ p6 ∧ Box w' G t x ∧ Box w' H u y ∧ Below B W w' ∧ Boxy w' Q q) : Boxy w' Q q := h.2.2.2.2.2.2.2.2.2

end Go.Proofs.YtlfghhmphgidjaaDoor
/-
  The model's AddRat and SubRat, whatever the two Rats.
-/
namespace Go.Proofs.YtlfghhmphgidjaaDoor
open Go.RowKit Num

theorem opRes_shape (b1 : Bool) (x1 y1 : ByteArray) (b2 : Bool) (x2 y2 : ByteArray) (o : Bool × Nat × Nat) : ∃ b x y c, opRes b1 x1 y1 b2 x2 y2 o = .tuple #[.agg #[.bool b, .string x, .string y], .bool c] := by
  unfold opRes
  split
  · exact ratRes_shape _ _ _
  · exact ⟨_, _, _, _, rfl⟩

theorem ln_num2 {s t : ByteArray} (hs : isNum s = true) (ht : isNum t = true) : ln 10000 (numOf s * numOf t) ≤ 274877906944 :=
  Nat.le_trans (ln_mul 10000 _ _ (by omega)) (by have := num_lt_room hs; have := num_lt_room ht; omega)

theorem addO_low (b1 : Bool) (n1 d1 : Nat) (b2 : Bool) (n2 d2 : Nat) (p1 : 0 < d1) (p2 : 0 < d2) (hS : ln 10000 (n1 * d2 + n2 * d1) ≤ 549755813888) (hD : ln 10000 (d1 * d2) ≤ 549755813888) :
    LowQ (addO b1 n1 d1 b2 n2 d2).1 (addO b1 n1 d1 b2 n2 d2).2.1 (addO b1 n1 d1 b2 n2 d2).2.2 := by
  have hp := Nat.mul_pos p1 p2
  unfold addO
  refine ⟨low_pos hp, low_gcd hp, fun h => ?_, ?_, ?_⟩
  · simp only [Bool.and_eq_true, decide_eq_true_eq] at h
    exact low_num h.2 hp
  · have hc := sgn_combo b1 b2 (n1 * d2) (n2 * d1)
    refine Nat.le_trans (ln_mono 10000 _ _ (by omega) (Nat.div_le_self _ _)) (Nat.le_trans (ln_mono 10000 _ _ (by omega) ?_) hS)
    rcases hc with h | h | h <;> omega
  · exact Nat.le_trans (ln_mono 10000 _ _ (by omega) (Nat.div_le_self _ _)) hD

/-- The model's sum comes to the same. -/
theorem addQ_as (b1 b2 : Bool) (v1 v2 v3 v4 : Value) (n1 d1 n2 d2 : Nat) (w : World) (h1 : Nums 3 .i64 10000 w v1 n1) (h2 : Nums 3 .i64 10000 w v2 d1) (h3 : Nums 3 .i64 10000 w v3 n2) (h4 : Nums 3 .i64 10000 w v4 d2)
    (l1 : ln 10000 n1 ≤ 137438953472) (l2 : ln 10000 d1 ≤ 137438953472) (l3 : ln 10000 n2 ≤ 137438953472) (l4 : ln 10000 d2 ≤ 137438953472) (p1 : 0 < d1) (p2 : 0 < d2) :
    Calls Tryd.prog 29 #[.agg #[.bool b1, v1, v2], .agg #[.bool b2, v3, v4]] w fun e w' => (∃ v, e = .returned v ∧ IsQ w' v (addO b1 n1 d1 b2 n2 d2).1 (addO b1 n1 d1 b2 n2 d2).2.1 (addO b1 n1 d1 b2 n2 d2).2.2) ∧ Below w.heap.size w w' := by
  have hr := cmp_room l1 l2 l3 l4
  have hs : (b1 = b2 ∧ (sgnSum b1 (n1 * d2) b2 (n2 * d1)).1 = b1 ∧ (sgnSum b1 (n1 * d2) b2 (n2 * d1)).2 = n1 * d2 + n2 * d1) ∨ (b1 = !b2 ∧ n2 * d1 ≤ n1 * d2 ∧ (sgnSum b1 (n1 * d2) b2 (n2 * d1)).1 = b1 ∧ (sgnSum b1 (n1 * d2) b2 (n2 * d1)).2 = n1 * d2 - n2 * d1) ∨ (b1 = !b2 ∧ n1 * d2 < n2 * d1 ∧ (sgnSum b1 (n1 * d2) b2 (n2 * d1)).1 = b2 ∧ (sgnSum b1 (n1 * d2) b2 (n2 * d1)).2 = n2 * d1 - n1 * d2) := by
    unfold sgnSum
    by_cases h : b1 = b2
    · left; rw [if_pos h]; exact ⟨h, rfl, rfl⟩
    · have hn : b1 = !b2 := by cases b1 <;> cases b2 <;> simp_all
      rw [if_neg h]
      by_cases hl : n1 * d2 < n2 * d1
      · right; right; rw [if_pos hl]; exact ⟨hn, hl, rfl, rfl⟩
      · right; left; rw [if_neg hl]; exact ⟨hn, by omega, rfl, rfl⟩
  exact addQ_any b1 b2 v1 v2 v3 v4 n1 d1 n2 d2 w h1 h2 h3 h4 (by omega) (by omega) (by omega) (by omega) _ _ _ rfl rfl rfl (Nat.mul_pos p1 p2) hr.1 hr.2 _ _ hs

end Go.Proofs.YtlfghhmphgidjaaDoor
