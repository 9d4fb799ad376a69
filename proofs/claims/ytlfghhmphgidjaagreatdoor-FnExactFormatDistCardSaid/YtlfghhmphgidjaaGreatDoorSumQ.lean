/-
  Several texts in one: SumP, SumR, TextP, RatLaw.
-/
import Derived.Test.YtlfghhmphgidjaaGreatDoorSpecMD
import Derived.Test.YtlfghhmphgidjaaGreatDoorCompW
/-
  Sums of fractions in lowest terms: a fraction in lowest terms is determined by its value, so sums may be bracketed as one likes. (Pure; for SumRats and the law on rationals.)
-/
namespace Go.Proofs.YtlfghhmphgidjaaGreatDoor
open Go.RowKit Num

/-- A sign and a magnitude as an integer. -/
def zI (b : Bool) (n : Nat) : Int := if b = true then -(n : Int) else (n : Int)

/-- In lowest terms. -/
structure LowO (o : Bool × Nat × Nat) : Prop where
  pos : 0 < o.2.2
  gcd : Nat.gcd o.2.1 o.2.2 = 1
  sign : o.1 = true → 0 < o.2.1

theorem zI_sum (b1 : Bool) (x : Nat) (b2 : Bool) (y : Nat) : zI (sgnSum b1 x b2 y).1 (sgnSum b1 x b2 y).2 = zI b1 x + zI b2 y := by
  unfold sgnSum zI
  by_cases h : b1 = b2
  · subst h
    simp only [if_true]
    split <;> omega
  · simp only [if_neg h]
    by_cases hl : x < y
    · simp only [if_pos hl]
      cases b1 <;> cases b2 <;> simp_all <;> omega
    · simp only [if_neg hl]
      cases b1 <;> cases b2 <;> simp_all <;> omega

theorem zI_norm (b : Bool) (n : Nat) : zI (b && decide (0 < n)) n = zI b n := by
  unfold zI
  by_cases h : 0 < n
  · rw [decide_eq_true h, Bool.and_true]
  · obtain rfl : n = 0 := by omega
    cases b <;> rfl

theorem zI_mul (b : Bool) (n k : Nat) : zI b (n * k) = zI b n * (k : Int) := by
  unfold zI
  split
  · rw [Int.natCast_mul, Int.neg_mul]
  · rw [Int.natCast_mul]

theorem zI_abs (b : Bool) (n : Nat) : (zI b n).natAbs = n := by
  unfold zI
  split <;> omega

/-- A fraction in lowest terms is determined by its value. -/
theorem low_unique {a c : Bool × Nat × Nat} (ha : LowO a) (hc : LowO c) (h : zI a.1 a.2.1 * (c.2.2 : Int) = zI c.1 c.2.1 * (a.2.2 : Int)) : a = c := by
  obtain ⟨b1, n1, d1⟩ := a
  obtain ⟨b2, n2, d2⟩ := c
  obtain ⟨p1, g1, s1⟩ := ha
  obtain ⟨p2, g2, s2⟩ := hc
  simp only at p1 g1 s1 p2 g2 s2 h
  have habs : n1 * d2 = n2 * d1 := by
    have h1 := congrArg Int.natAbs h
    rw [Int.natAbs_mul, Int.natAbs_mul, zI_abs, zI_abs, Int.natAbs_natCast, Int.natAbs_natCast] at h1
    exact h1
  have hd : d1 = d2 := by
    have k1 : d1 ∣ d2 := by
      have : d1 ∣ n1 * d2 := ⟨n2, by rw [habs, Nat.mul_comm]⟩
      exact (Nat.Coprime.symm g1).dvd_of_dvd_mul_left this
    have k2 : d2 ∣ d1 := by
      have : d2 ∣ n2 * d1 := ⟨n1, by rw [← habs, Nat.mul_comm]⟩
      exact (Nat.Coprime.symm g2).dvd_of_dvd_mul_left this
    exact Nat.dvd_antisymm k1 k2
  subst hd
  have hn : n1 = n2 := Nat.eq_of_mul_eq_mul_right p1 habs
  subst hn
  have hb : b1 = b2 := by
    by_cases h0 : 0 < n1
    · have hz : zI b1 n1 = zI b2 n1 := Int.eq_of_mul_eq_mul_right (by omega) h
      unfold zI at hz
      cases b1 <;> cases b2 <;> simp at hz <;> first | rfl | omega
    · cases b1 <;> cases b2
      · rfl
      · exact absurd (s2 rfl) h0
      · exact absurd (s1 rfl) h0
      · rfl
  rw [hb]

theorem addO_LowO (b1 : Bool) (n1 d1 : Nat) (b2 : Bool) (n2 d2 : Nat) (p1 : 0 < d1) (p2 : 0 < d2) : LowO (addO b1 n1 d1 b2 n2 d2) := by
  have hp := Nat.mul_pos p1 p2
  unfold addO
  refine ⟨low_pos hp, low_gcd hp, fun h => ?_⟩
  simp only [Bool.and_eq_true, decide_eq_true_eq] at h
  exact low_num h.2 hp

theorem mulO_LowO (b1 : Bool) (n1 d1 : Nat) (b2 : Bool) (n2 d2 : Nat) (p1 : 0 < d1) (p2 : 0 < d2) : LowO (mulO b1 n1 d1 b2 n2 d2) := by
  have hp := Nat.mul_pos p1 p2
  unfold mulO
  refine ⟨low_pos hp, low_gcd hp, fun h => ?_⟩
  simp only [Bool.and_eq_true, decide_eq_true_eq] at h
  exact low_num h.2 hp

/-- The value of a fraction that has been brought to lowest terms. -/
theorem low_value (b : Bool) (n d : Nat) (hd : 0 < d) : zI (b && decide (0 < n)) (n / Nat.gcd n d) * (d : Int) = zI b n * ((d / Nat.gcd n d : Nat) : Int) := by
  have hg : 0 < Nat.gcd n d := Nat.gcd_pos_of_pos_right _ hd
  obtain ⟨a, ha⟩ := Nat.gcd_dvd_left n d
  obtain ⟨c, hc⟩ := Nat.gcd_dvd_right n d
  obtain ⟨g, hgg⟩ : ∃ g, g = Nat.gcd n d := ⟨_, rfl⟩
  rw [← hgg] at ha hc hg ⊢
  have ea : n / g = a := by rw [ha, Nat.mul_div_cancel_left _ hg]
  have ec : d / g = c := by rw [hc, Nat.mul_div_cancel_left _ hg]
  rw [ea, ec]
  have hz : zI (b && decide (0 < n)) a = zI b a := by
    unfold zI
    by_cases h0 : 0 < n
    · rw [decide_eq_true h0, Bool.and_true]
    · have : a = 0 := by
        rcases Nat.eq_zero_or_pos a with e | e
        · exact e
        · have := Nat.mul_pos hg e; omega
      subst this
      cases b <;> simp
  rw [hz]
  have e1 : zI b n = zI b a * (g : Int) := by rw [ha, Nat.mul_comm, zI_mul]
  rw [e1, hc, Int.natCast_mul, Int.mul_assoc]

theorem addO_value (b1 : Bool) (n1 d1 : Nat) (b2 : Bool) (n2 d2 : Nat) (p1 : 0 < d1) (p2 : 0 < d2) :
    zI (addO b1 n1 d1 b2 n2 d2).1 (addO b1 n1 d1 b2 n2 d2).2.1 * ((d1 * d2 : Nat) : Int) = (zI b1 n1 * (d2 : Int) + zI b2 n2 * (d1 : Int)) * ((addO b1 n1 d1 b2 n2 d2).2.2 : Int) := by
  unfold addO
  simp only
  rw [low_value _ _ _ (Nat.mul_pos p1 p2), zI_sum, zI_mul, zI_mul]

theorem addO_comm (b1 : Bool) (n1 d1 : Nat) (b2 : Bool) (n2 d2 : Nat) (p1 : 0 < d1) (p2 : 0 < d2) : addO b1 n1 d1 b2 n2 d2 = addO b2 n2 d2 b1 n1 d1 := by
  refine low_unique (addO_LowO _ _ _ _ _ _ p1 p2) (addO_LowO _ _ _ _ _ _ p2 p1) ?_
  have h1 := addO_value b1 n1 d1 b2 n2 d2 p1 p2
  have h2 := addO_value b2 n2 d2 b1 n1 d1 p2 p1
  have hp : (0 : Int) < ((d1 * d2 : Nat) : Int) := by exact_mod_cast Nat.mul_pos p1 p2
  refine Int.eq_of_mul_eq_mul_right (Int.ne_of_gt hp) ?_
  rw [Nat.mul_comm d2 d1] at h2
  rw [Int.mul_right_comm, h1, Int.mul_right_comm (zI (addO b2 n2 d2 b1 n1 d1).1 _), h2, Int.add_comm, Int.mul_right_comm]

/-- Cancelling a positive denominator. -/
theorem cancel_den {a b : Int} {d : Nat} (hd : 0 < d) (h : a * (d : Int) = b * (d : Int)) : a = b :=
  Int.eq_of_mul_eq_mul_right (by omega) h

theorem addO_pos (b1 : Bool) (n1 d1 : Nat) (b2 : Bool) (n2 d2 : Nat) (p1 : 0 < d1) (p2 : 0 < d2) : 0 < (addO b1 n1 d1 b2 n2 d2).2.2 := (addO_LowO b1 n1 d1 b2 n2 d2 p1 p2).pos

/-- Sums may be bracketed as one likes. -/
theorem addO_assoc (b1 : Bool) (n1 d1 : Nat) (b2 : Bool) (n2 d2 : Nat) (b3 : Bool) (n3 d3 : Nat) (p1 : 0 < d1) (p2 : 0 < d2) (p3 : 0 < d3) :
    addO (addO b1 n1 d1 b2 n2 d2).1 (addO b1 n1 d1 b2 n2 d2).2.1 (addO b1 n1 d1 b2 n2 d2).2.2 b3 n3 d3 =
    addO b1 n1 d1 (addO b2 n2 d2 b3 n3 d3).1 (addO b2 n2 d2 b3 n3 d3).2.1 (addO b2 n2 d2 b3 n3 d3).2.2 := by
  have hx := addO_value b1 n1 d1 b2 n2 d2 p1 p2
  have hy := addO_value b2 n2 d2 b3 n3 d3 p2 p3
  have px := addO_pos b1 n1 d1 b2 n2 d2 p1 p2
  have py := addO_pos b2 n2 d2 b3 n3 d3 p2 p3
  obtain ⟨⟨bx, nx, dx⟩, ex⟩ : ∃ o, o = addO b1 n1 d1 b2 n2 d2 := ⟨_, rfl⟩
  obtain ⟨⟨by', ny, dy⟩, ey⟩ : ∃ o, o = addO b2 n2 d2 b3 n3 d3 := ⟨_, rfl⟩
  rw [← ex] at hx px ⊢
  rw [← ey] at hy py ⊢
  simp only at hx hy px py ⊢
  have hu := addO_value bx nx dx b3 n3 d3 px p3
  have hv := addO_value b1 n1 d1 by' ny dy p1 py
  refine low_unique (addO_LowO _ _ _ _ _ _ px p3) (addO_LowO _ _ _ _ _ _ p1 py) ?_
  obtain ⟨⟨bu, nu, du⟩, eu⟩ : ∃ o, o = addO bx nx dx b3 n3 d3 := ⟨_, rfl⟩
  obtain ⟨⟨bv, nv, dv⟩, ev⟩ : ∃ o, o = addO b1 n1 d1 by' ny dy := ⟨_, rfl⟩
  rw [← eu] at hu ⊢
  rw [← ev] at hv ⊢
  simp only at hu hv ⊢
  obtain ⟨z1, e1⟩ : ∃ z, z = zI b1 n1 := ⟨_, rfl⟩
  obtain ⟨z2, e2⟩ : ∃ z, z = zI b2 n2 := ⟨_, rfl⟩
  obtain ⟨z3, e3⟩ : ∃ z, z = zI b3 n3 := ⟨_, rfl⟩
  obtain ⟨zx, e4⟩ : ∃ z, z = zI bx nx := ⟨_, rfl⟩
  obtain ⟨zy, e5⟩ : ∃ z, z = zI by' ny := ⟨_, rfl⟩
  obtain ⟨zu, e6⟩ : ∃ z, z = zI bu nu := ⟨_, rfl⟩
  obtain ⟨zv, e7⟩ : ∃ z, z = zI bv nv := ⟨_, rfl⟩
  rw [← e1, ← e2, ← e4] at hx
  rw [← e2, ← e3, ← e5] at hy
  rw [← e3, ← e4, ← e6] at hu
  rw [← e1, ← e5, ← e7] at hv
  rw [← e6, ← e7]
  clear e1 e2 e3 e4 e5 e6 e7 ex ey eu ev
  rw [Int.natCast_mul] at hx hy hu hv
  -- zu/du = zx/dx + z3/d3, zv/dv = z1/d1 + zy/dy, zx/dx = z1/d1 + z2/d2, zy/dy = z2/d2 + z3/d3
  have q : (0 : Int) < (d1 : Int) * d2 * d3 * dx * dy := by
    have := Nat.mul_pos (Nat.mul_pos (Nat.mul_pos (Nat.mul_pos p1 p2) p3) px) py
    have h2 : ((d1 * d2 * d3 * dx * dy : Nat) : Int) = (d1 : Int) * d2 * d3 * dx * dy := by simp [Int.natCast_mul]
    rw [← h2]; omega
  refine Int.eq_of_mul_eq_mul_right (Int.ne_of_gt q) ?_
  have hA : zu * ((dx : Int) * d3) * (dv * (d1 * d2 * dy)) = (zx * d3 + z3 * dx) * du * (dv * (d1 * d2 * dy)) := by rw [hu]
  have hB : zv * ((d1 : Int) * dy) * (du * (d2 * d3 * dx)) = (z1 * dy + zy * d1) * dv * (du * (d2 * d3 * dx)) := by rw [hv]
  have hC : zx * ((d1 : Int) * d2) * (d3 * du * dv * dy) = (z1 * d2 + z2 * d1) * dx * (d3 * du * dv * dy) := by rw [hx]
  have hD : zy * ((d2 : Int) * d3) * (d1 * du * dv * dx) = (z2 * d3 + z3 * d2) * dy * (d1 * du * dv * dx) := by rw [hy]
  have e1 : zu * (dv : Int) * (d1 * d2 * d3 * dx * dy) = zu * ((dx : Int) * d3) * (dv * (d1 * d2 * dy)) := by ac_rfl
  have e2 : zv * (du : Int) * (d1 * d2 * d3 * dx * dy) = zv * ((d1 : Int) * dy) * (du * (d2 * d3 * dx)) := by ac_rfl
  rw [e1, e2, hA, hB]
  have e3 : (zx * (d3 : Int) + z3 * dx) * du * (dv * (d1 * d2 * dy)) = zx * ((d1 : Int) * d2) * (d3 * du * dv * dy) + z3 * (d1 * d2 * dx * dy * du * dv) := by
    rw [Int.add_mul, Int.add_mul]; congr 1 <;> ac_rfl
  have e4 : (z1 * (dy : Int) + zy * d1) * dv * (du * (d2 * d3 * dx)) = zy * ((d2 : Int) * d3) * (d1 * du * dv * dx) + z1 * (d2 * d3 * dx * dy * du * dv) := by
    rw [Int.add_mul, Int.add_mul, Int.add_comm]; congr 1 <;> ac_rfl
  rw [e3, e4, hC, hD]
  have e5 : (z1 * (d2 : Int) + z2 * d1) * dx * (d3 * du * dv * dy) = z1 * (d2 * d3 * dx * dy * du * dv) + z2 * (d1 * d3 * dx * dy * du * dv) := by
    rw [Int.add_mul, Int.add_mul]; congr 1 <;> ac_rfl
  have e6 : (z2 * (d3 : Int) + z3 * d2) * dy * (d1 * du * dv * dx) = z2 * (d1 * d3 * dx * dy * du * dv) + z3 * (d1 * d2 * dx * dy * du * dv) := by
    rw [Int.add_mul, Int.add_mul]; congr 1 <;> ac_rfl
  rw [e5, e6]
  omega

theorem zI_neg (b : Bool) (n : Nat) : zI (!b && decide (0 < n)) n = -zI b n := by
  rw [zI_norm]
  unfold zI
  cases b <;> simp

/-- Nought added. -/
theorem addO_nought (b : Bool) (n d : Nat) (h : LowO (b, n, d)) : addO b n d false 0 1 = (b, n, d) := by
  have hp := h.pos
  refine low_unique (addO_LowO _ _ _ _ _ _ hp (by omega)) h ?_
  have hv := addO_value b n d false 0 1 hp (by omega)
  have h0 : zI false 0 = 0 := rfl
  rw [h0, Int.zero_mul, Int.add_zero, Nat.mul_one] at hv
  have h1 : ((1 : Nat) : Int) = 1 := rfl
  rw [h1, Int.mul_one] at hv
  exact hv

/-- A number and its negative. -/
theorem addO_neg (b : Bool) (n d : Nat) (hd : 0 < d) : addO b n d (!b && decide (0 < n)) n d = (false, 0, 1) := by
  refine low_unique (addO_LowO _ _ _ _ _ _ hd hd) ⟨Nat.one_pos, Nat.gcd_one_right 0, fun h => by cases h⟩ ?_
  have hv := addO_value b n d (!b && decide (0 < n)) n d hd hd
  rw [zI_neg, Int.neg_mul, Int.add_right_neg, Int.zero_mul] at hv
  have hz : zI (addO b n d (!b && decide (0 < n)) n d).1 (addO b n d (!b && decide (0 < n)) n d).2.1 = 0 := by
    rcases Int.mul_eq_zero.1 hv with h | h
    · exact h
    · have := Nat.mul_pos hd hd; omega
  show zI _ _ * ((1 : Nat) : Int) = zI false 0 * _
  rw [hz, Int.zero_mul]
  show (0 : Int) = 0 * _
  rw [Int.zero_mul]

/-- (a + b) - b = a. -/
theorem add_sub (b1 : Bool) (n1 d1 : Nat) (b2 : Bool) (n2 d2 : Nat) (h1 : LowO (b1, n1, d1)) (p2 : 0 < d2) :
    addO (addO b1 n1 d1 b2 n2 d2).1 (addO b1 n1 d1 b2 n2 d2).2.1 (addO b1 n1 d1 b2 n2 d2).2.2 (!b2 && decide (0 < n2)) n2 d2 = (b1, n1, d1) := by
  rw [addO_assoc b1 n1 d1 b2 n2 d2 _ n2 d2 h1.pos p2 p2, addO_neg b2 n2 d2 p2]
  exact addO_nought b1 n1 d1 h1

theorem zI_prod (b1 : Bool) (n1 : Nat) (b2 : Bool) (n2 : Nat) : zI ((b1 != b2) && decide (0 < n1 * n2)) (n1 * n2) = zI b1 n1 * zI b2 n2 := by
  rw [zI_norm]
  unfold zI
  cases b1 <;> cases b2 <;> simp [Int.natCast_mul, Int.neg_mul, Int.mul_neg]

theorem mulO_value (b1 : Bool) (n1 d1 : Nat) (b2 : Bool) (n2 d2 : Nat) (p1 : 0 < d1) (p2 : 0 < d2) :
    zI (mulO b1 n1 d1 b2 n2 d2).1 (mulO b1 n1 d1 b2 n2 d2).2.1 * ((d1 * d2 : Nat) : Int) = zI b1 n1 * zI b2 n2 * ((mulO b1 n1 d1 b2 n2 d2).2.2 : Int) := by
  unfold mulO
  simp only
  rw [low_value _ _ _ (Nat.mul_pos p1 p2), ← zI_prod, zI_norm]

theorem mulO_comm (b1 : Bool) (n1 d1 : Nat) (b2 : Bool) (n2 d2 : Nat) : mulO b1 n1 d1 b2 n2 d2 = mulO b2 n2 d2 b1 n1 d1 := by
  unfold mulO
  rw [Nat.mul_comm n2 n1, Nat.mul_comm d2 d1, show (b2 != b1) = (b1 != b2) by cases b1 <;> cases b2 <;> rfl]

/-- (a / b) * b = a. -/
theorem div_mul (b1 : Bool) (n1 d1 : Nat) (b2 : Bool) (n2 d2 : Nat) (h1 : LowO (b1, n1, d1)) (p2 : 0 < d2) (q2 : 0 < n2) :
    mulO (mulO b1 n1 d1 b2 d2 n2).1 (mulO b1 n1 d1 b2 d2 n2).2.1 (mulO b1 n1 d1 b2 d2 n2).2.2 b2 n2 d2 = (b1, n1, d1) := by
  have p1 := h1.pos
  simp only at p1
  have hx := mulO_value b1 n1 d1 b2 d2 n2 p1 q2
  have px := (mulO_LowO b1 n1 d1 b2 d2 n2 p1 q2).pos
  obtain ⟨⟨bx, nx, dx⟩, ex⟩ : ∃ o, o = mulO b1 n1 d1 b2 d2 n2 := ⟨_, rfl⟩
  rw [← ex] at hx px ⊢
  simp only at hx px ⊢
  have hu := mulO_value bx nx dx b2 n2 d2 px p2
  refine low_unique (mulO_LowO _ _ _ _ _ _ px p2) h1 ?_
  obtain ⟨⟨bu, nu, du⟩, eu⟩ : ∃ o, o = mulO bx nx dx b2 n2 d2 := ⟨_, rfl⟩
  rw [← eu] at hu ⊢
  simp only at hu ⊢
  have e2 : zI b2 d2 * zI b2 n2 = ((d2 * n2 : Nat) : Int) := by
    unfold zI
    cases b2 <;> simp [Int.natCast_mul, Int.neg_mul, Int.mul_neg]
  obtain ⟨z1, f1⟩ : ∃ z, z = zI b1 n1 := ⟨_, rfl⟩
  obtain ⟨zx, f2⟩ : ∃ z, z = zI bx nx := ⟨_, rfl⟩
  obtain ⟨zu, f3⟩ : ∃ z, z = zI bu nu := ⟨_, rfl⟩
  obtain ⟨za, f4⟩ : ∃ z, z = zI b2 d2 := ⟨_, rfl⟩
  obtain ⟨zb, f5⟩ : ∃ z, z = zI b2 n2 := ⟨_, rfl⟩
  rw [← f1, ← f2, ← f4] at hx
  rw [← f2, ← f3, ← f5] at hu
  rw [← f4, ← f5] at e2
  rw [← f1, ← f3]
  clear f1 f2 f3 f4 f5 ex eu
  rw [Int.natCast_mul] at hx hu e2
  have q : (0 : Int) < (dx : Int) * d2 * n2 := by
    have := Nat.mul_pos (Nat.mul_pos px p2) q2
    have h2 : ((dx * d2 * n2 : Nat) : Int) = (dx : Int) * d2 * n2 := by simp [Int.natCast_mul]
    rw [← h2]; omega
  refine Int.eq_of_mul_eq_mul_right (Int.ne_of_gt q) ?_
  have e3 : zu * (d1 : Int) * (dx * d2 * n2) = zu * ((dx : Int) * d2) * (d1 * n2) := by ac_rfl
  have e4 : zx * zb * (du : Int) * (d1 * n2) = zx * ((d1 : Int) * n2) * (zb * du) := by ac_rfl
  have e5 : z1 * za * (dx : Int) * (zb * du) = z1 * (za * zb) * (dx * du) := by ac_rfl
  rw [e3, hu, e4, hx, e5, e2]
  ac_rfl

end Go.Proofs.YtlfghhmphgidjaaGreatDoor
/-
  Sums of lists of fractions: how they may be bracketed, and how long they become. (Pure.)
-/
namespace Go.Proofs.YtlfghhmphgidjaaGreatDoor
open Go.RowKit Num

/-- The sum of the k fractions from place a on, in their order. -/
def sumR (F : Nat → Bool × Nat × Nat) (a : Nat) : Nat → Bool × Nat × Nat
  | 0 => (false, 0, 1)
  | k + 1 => addO (sumR F a k).1 (sumR F a k).2.1 (sumR F a k).2.2 (F (a + k)).1 (F (a + k)).2.1 (F (a + k)).2.2

theorem low_nought : LowO (false, 0, 1) := ⟨Nat.one_pos, Nat.gcd_one_right 0, fun h => by cases h⟩

theorem sumR_low {F : Nat → Bool × Nat × Nat} {a k : Nat} (hF : ∀ j, j < k → LowO (F (a + j))) : LowO (sumR F a k) := by
  induction k with
  | zero => exact low_nought
  | succ k ih => exact addO_LowO _ _ _ _ _ _ (ih fun j hj => hF j (by omega)).pos (hF k (by omega)).pos

theorem sumR_one {F : Nat → Bool × Nat × Nat} {a : Nat} (h : LowO (F a)) : sumR F a 1 = F a := by
  show addO false 0 1 (F (a + 0)).1 (F (a + 0)).2.1 (F (a + 0)).2.2 = F a
  rw [Nat.add_zero, addO_comm _ _ _ _ _ _ Nat.one_pos h.pos]
  exact addO_nought _ _ _ h

theorem sumR_split {F : Nat → Bool × Nat × Nat} {a : Nat} (h m : Nat) (hF : ∀ j, j < h + m → LowO (F (a + j))) :
    addO (sumR F a h).1 (sumR F a h).2.1 (sumR F a h).2.2 (sumR F (a + h) m).1 (sumR F (a + h) m).2.1 (sumR F (a + h) m).2.2 = sumR F a (h + m) := by
  have hl : LowO (sumR F a h) := sumR_low fun j hj => hF j (by omega)
  induction m with
  | zero => exact addO_nought _ _ _ hl
  | succ m ih =>
    have e := ih (fun j hj => hF j (by omega))
    have hm : LowO (sumR F (a + h) m) := sumR_low fun j hj => by rw [Nat.add_assoc]; exact hF (h + j) (by omega)
    have hf : LowO (F (a + h + m)) := by rw [Nat.add_assoc]; exact hF (h + m) (by omega)
    show addO _ _ _ (addO (sumR F (a + h) m).1 (sumR F (a + h) m).2.1 (sumR F (a + h) m).2.2 (F (a + h + m)).1 (F (a + h + m)).2.1 (F (a + h + m)).2.2).1 (addO (sumR F (a + h) m).1 (sumR F (a + h) m).2.1 (sumR F (a + h) m).2.2 (F (a + h + m)).1 (F (a + h + m)).2.1 (F (a + h + m)).2.2).2.1 (addO (sumR F (a + h) m).1 (sumR F (a + h) m).2.1 (sumR F (a + h) m).2.2 (F (a + h + m)).1 (F (a + h + m)).2.1 (F (a + h + m)).2.2).2.2 = addO (sumR F a (h + m)).1 (sumR F a (h + m)).2.1 (sumR F a (h + m)).2.2 (F (a + (h + m))).1 (F (a + (h + m))).2.1 (F (a + (h + m))).2.2
    rw [← addO_assoc _ _ _ _ _ _ _ _ _ hl.pos hm.pos hf.pos, e, Nat.add_assoc]

/-- The size of a sum of k numbers, none of whose parts is greater than M. -/
structure SumFit (M k : Nat) (o : Bool × Nat × Nat) : Prop where
  num : o.2.1 ≤ M ^ (2 * k)
  den : o.2.2 ≤ M ^ k

theorem sgn_le (b1 : Bool) (x : Nat) (b2 : Bool) (y : Nat) : (sgnSum b1 x b2 y).2 ≤ x + y := by
  unfold sgnSum
  split
  · exact Nat.le_refl _
  · split <;> simp only <;> omega

theorem addO_num_le (b1 : Bool) (n1 d1 : Nat) (b2 : Bool) (n2 d2 : Nat) : (addO b1 n1 d1 b2 n2 d2).2.1 ≤ n1 * d2 + n2 * d1 := by
  unfold addO
  exact Nat.le_trans (Nat.div_le_self _ _) (sgn_le _ _ _ _)
theorem addO_den_le (b1 : Bool) (n1 d1 : Nat) (b2 : Bool) (n2 d2 : Nat) : (addO b1 n1 d1 b2 n2 d2).2.2 ≤ d1 * d2 := by
  unfold addO
  exact Nat.div_le_self _ _

theorem sumR_fit {M : Nat} (hM : 2 ≤ M) {F : Nat → Bool × Nat × Nat} {a k : Nat} (hF : ∀ j, j < k → (F (a + j)).2.1 ≤ M ∧ (F (a + j)).2.2 ≤ M) : SumFit M k (sumR F a k) := by
  induction k with
  | zero => exact ⟨Nat.zero_le _, Nat.le_refl _⟩
  | succ k ih =>
    obtain ⟨hn, hd⟩ := ih fun j hj => hF j (by omega)
    obtain ⟨fn, fd⟩ := hF k (by omega)
    have hp : 0 < M := by omega
    refine ⟨Nat.le_trans (addO_num_le _ _ _ _ _ _) ?_, Nat.le_trans (addO_den_le _ _ _ _ _ _) ?_⟩
    · have h1 : (sumR F a k).2.1 * (F (a + k)).2.2 ≤ M ^ (2 * k) * M := Nat.mul_le_mul hn fd
      have h2 : (F (a + k)).2.1 * (sumR F a k).2.2 ≤ M * M ^ k := Nat.mul_le_mul fn hd
      have h3 : M ^ k ≤ M ^ (2 * k) := Nat.pow_le_pow_right hp (by omega)
      have h4 : M * M ^ k ≤ M ^ (2 * k) * M := by rw [Nat.mul_comm]; exact Nat.mul_le_mul_right M h3
      have h5 : M ^ (2 * (k + 1)) = M ^ (2 * k) * M * M := by rw [show 2 * (k + 1) = 2 * k + 1 + 1 by omega, Nat.pow_succ, Nat.pow_succ]
      rw [h5]
      have h6 : M ^ (2 * k) * M * 2 ≤ M ^ (2 * k) * M * M := Nat.mul_le_mul_left _ hM
      omega
    · rw [Nat.pow_succ]; exact Nat.mul_le_mul hd fd

theorem ln_of_pow {b M e k x : Nat} (hb : 2 ≤ b) (hM : M ≤ b ^ e) (hx : x ≤ M ^ k) : ln b x ≤ e * k + 1 := by
  refine ln_le_of_lt b x _ hb (Nat.lt_of_le_of_lt (Nat.le_trans hx (Nat.pow_le_pow_left hM k)) ?_)
  rw [← Nat.pow_mul]
  exact Nat.pow_lt_pow_right (by omega) (by omega)

end Go.Proofs.YtlfghhmphgidjaaGreatDoor
/-
  Numerals and the numbers that they say: there and back. (Pure.)
-/
namespace Go.Proofs.YtlfghhmphgidjaaGreatDoor
open Go.RowKit Num

/-- The digits' texts, as the model writes them. -/
theorem decL_rd (d : Nat → Nat) (k : Nat) (hk : 0 < k) (hd : ∀ j, j < k → d j ≤ 9) (h0 : 1 ≤ d 0 ∨ k = 1) : decL (Read.rd d k) = (List.range k).map fun j => UInt8.ofNat (48 + d j) := by
  induction k with
  | zero => omega
  | succ k ih =>
    rw [List.range_succ, List.map_append, List.map_cons, List.map_nil]
    by_cases hk0 : k = 0
    · subst hk0
      have e : Read.rd d 1 = d 0 := by simp [Read.rd, Read.seg]
      rw [e, decL_small _ (by have := hd 0 (by omega); omega)]
      rfl
    · have h1 : 1 ≤ d 0 := by omega
      have hp : 1 ≤ Read.rd d k := Nat.le_trans (Nat.pow_pos (by omega)) (Read.rd_pos d k (by omega) h1)
      have hs : Read.rd d (k + 1) = 10 * Read.rd d k + d k := by simp [Read.rd, Read.seg]
      have h9 := hd k (by omega)
      rw [hs, decL_step _ (by omega), show (10 * Read.rd d k + d k) / 10 = Read.rd d k by omega, show (10 * Read.rd d k + d k) % 10 = d k by omega, ih (by omega) (fun j hj => hd j (by omega)) (.inl h1)]

theorem getD_in {a : Array UInt8} {i : Nat} (h : i < a.size) : a.getD i 0 = a[i] := by
  unfold Array.getD
  rw [dif_pos h]
  rfl

theorem bytes_range (s : ByteArray) : s.data.toList = (List.range s.size).map fun j => s.data.getD j 0 := by
  apply List.ext_getElem
  · rw [List.length_map, List.length_range, Array.length_toList]; rfl
  · intro i h1 h2
    have hi : i < s.data.size := by rw [← Array.length_toList]; exact h1
    rw [List.getElem_map, List.getElem_range, Array.getElem_toList]
    exact (getD_in hi).symm

/-- A numeral is what its number is written as. -/
theorem dec_numOf {s : ByteArray} (h : isNum s = true) : dec (numOf s) = s := by
  obtain ⟨h1, h2, h3⟩ := isNum_parts h
  unfold dec numOf
  rw [decL_rd (dgt s) s.size (by omega) (fun j hj => by have := h2 j hj; unfold dgt; omega) (by
    rcases h3 with h3 | h3
    · left; have := h2 0 (by omega); unfold dgt; omega
    · right; exact h3)]
  apply ByteArray.ext
  apply Array.ext'
  show ((List.range s.size).map fun j => UInt8.ofNat (48 + dgt s j)) = s.data.toList
  rw [bytes_range]
  refine List.map_congr_left fun j hj => ?_
  have hj' := List.mem_range.1 hj
  have := h2 j hj'
  have e : 48 + dgt s j = byt s j := by unfold dgt; omega
  rw [e]
  unfold byt
  exact UInt8.ofNat_toNat

/-- The number that a list of digits says. -/
def lval (l : List UInt8) : Nat := l.foldl (fun acc c => 10 * acc + (c.toNat - 48)) 0

theorem lval_snoc (l : List UInt8) (c : UInt8) : lval (l ++ [c]) = 10 * lval l + (c.toNat - 48) := by
  unfold lval
  rw [List.foldl_append]
  rfl

theorem rd_lval (s : ByteArray) (k : Nat) (hk : k ≤ s.size) : Read.rd (dgt s) k = lval (s.data.toList.take k) := by
  induction k with
  | zero => rfl
  | succ k ih =>
    have hs : Read.rd (dgt s) (k + 1) = 10 * Read.rd (dgt s) k + dgt s k := by simp [Read.rd, Read.seg]
    have hlt : k < s.data.toList.length := by rw [Array.length_toList]; exact hk
    rw [hs, ih (by omega), List.take_succ_eq_append_getElem hlt, lval_snoc]
    have hlt' : k < s.data.size := hk
    congr 1
    unfold dgt byt
    rw [getD_in hlt', Array.getElem_toList]

theorem numOf_lval (s : ByteArray) : numOf s = lval s.data.toList := by
  unfold numOf
  rw [rd_lval s s.size (Nat.le_refl _), List.take_of_length_le (by rw [Array.length_toList]; exact Nat.le_refl _)]

theorem digit_back (r : Nat) (hr : r < 10) : (UInt8.ofNat (48 + r)).toNat = 48 + r := by
  rw [UInt8.toNat_ofNat']
  omega

theorem lval_decL (n : Nat) : lval (decL n) = n := by
  induction n using Nat.strongRecOn with
  | ind n ih =>
    by_cases h : n < 10
    · rw [decL_small n h, show [UInt8.ofNat (48 + n)] = [] ++ [UInt8.ofNat (48 + n)] from rfl, lval_snoc, digit_back n h]
      show 10 * 0 + (48 + n - 48) = n
      omega
    · rw [decL_step n (by omega), lval_snoc, ih (n / 10) (by omega), digit_back _ (by omega)]
      omega

theorem numOf_dec (n : Nat) : numOf (dec n) = n := by
  rw [numOf_lval]
  exact lval_decL n

theorem decL_digits (n : Nat) : ∀ c ∈ decL n, 48 ≤ c.toNat ∧ c.toNat ≤ 57 := by
  induction n using Nat.strongRecOn with
  | ind n ih =>
    by_cases h : n < 10
    · rw [decL_small n h]
      intro c hc
      obtain rfl := List.mem_singleton.1 hc
      rw [digit_back n h]
      omega
    · rw [decL_step n (by omega)]
      intro c hc
      rcases List.mem_append.1 hc with hc | hc
      · exact ih (n / 10) (by omega) c hc
      · obtain rfl := List.mem_singleton.1 hc
        rw [digit_back _ (by omega)]
        omega

theorem decL_head (n : Nat) (hn : 0 < n) : ∃ c l, decL n = c :: l ∧ c.toNat ≠ 48 := by
  induction n using Nat.strongRecOn with
  | ind n ih =>
    by_cases h : n < 10
    · exact ⟨_, [], decL_small n h, by rw [digit_back n h]; omega⟩
    · obtain ⟨c, l, e, hc⟩ := ih (n / 10) (by omega) (by omega)
      exact ⟨c, l ++ [UInt8.ofNat (48 + n % 10)], by rw [decL_step n (by omega), e]; rfl, hc⟩

theorem decL_one (n : Nat) : 1 ≤ (decL n).length := by
  by_cases h : n = 0
  · subst h; decide
  · obtain ⟨c, l, e, _⟩ := decL_head n (by omega)
    rw [e]; simp

theorem isNum_dec (n : Nat) (h : (decL n).length ≤ 120) : isNum (dec n) = true := by
  have hsz := dec_size n
  have hb : ∀ j (hj : j < (decL n).length), byt (dec n) j = ((decL n)[j]).toNat := by
    intro j hj
    unfold byt dec
    simp [Array.getD, hj]
  unfold isNum
  refine decide_eq_true ⟨⟨by rw [hsz]; exact decL_one n, by omega⟩, fun j hj => ?_, ?_⟩
  · rw [hb j (by omega)]
    exact decL_digits n _ (List.getElem_mem _)
  · by_cases h0 : n = 0
    · right; rw [hsz, h0]; rfl
    · left
      obtain ⟨c, l, e, hc⟩ := decL_head n (by omega)
      rw [hb 0 (by have := decL_one n; omega)]
      simp only [e, List.getElem_cons_zero]
      exact hc

theorem fits_parts {n d : Nat} (h : fits n d = true) : (decL n).length ≤ 120 ∧ (decL d).length ≤ 120 := by
  unfold fits at h
  simpa using h

/-- A fraction in lowest terms, written out, is a valid Rat. -/
theorem validR_dec {sg : Bool} {N D : Nat} (h : LowO (sg, N, D)) (hf : fits N D = true) : validR sg (dec N) (dec D) = true := by
  obtain ⟨h1, h2⟩ := fits_parts hf
  have hp := h.pos
  have hg := h.gcd
  have hs := h.sign
  simp only at hp hg hs
  unfold validR
  rw [isNum_dec N h1, isNum_dec D h2, numOf_dec, numOf_dec]
  simp only [Bool.true_and, Bool.and_eq_true, decide_eq_true_eq]
  refine ⟨⟨by omega, fun h0 => ⟨?_, ?_⟩⟩, hg⟩
  · cases sg with
    | false => rfl
    | true => have := hs rfl; omega
  · subst h0
    rw [Nat.gcd_zero_left] at hg
    exact hg

theorem num_fits {x y : ByteArray} (hx : isNum x = true) (hy : isNum y = true) : fits (numOf x) (numOf y) = true := by
  have h1 := dec_size (numOf x)
  have h2 := dec_size (numOf y)
  rw [dec_numOf hx] at h1
  rw [dec_numOf hy] at h2
  obtain ⟨⟨_, a⟩, _⟩ := isNum_parts hx
  obtain ⟨⟨_, b⟩, _⟩ := isNum_parts hy
  unfold fits
  rw [decide_eq_true (by omega : (decL (numOf x)).length ≤ 120), decide_eq_true (by omega : (decL (numOf y)).length ≤ 120)]
  rfl

/-- A valid Rat is what its fraction is handed back as. -/
theorem ratRes_valid {b : Bool} {x y : ByteArray} (h : validR b x y = true) : ratRes b (numOf x) (numOf y) = .tuple #[.agg #[.bool b, .string x, .string y], .bool true] := by
  obtain ⟨hx, hy, _, _⟩ := validR_num h
  unfold ratRes
  rw [if_pos (num_fits hx hy)]
  unfold okRat
  rw [dec_numOf hx, dec_numOf hy]

theorem low_valid {b : Bool} {x y : ByteArray} (h : validR b x y = true) : LowO (b, numOf x, numOf y) := by
  obtain ⟨_, _, h3, h4⟩ := validR_num h
  refine ⟨by show 0 < numOf y; omega, validR_gcd h, fun hs => ?_⟩
  show 0 < numOf x
  rcases Nat.eq_zero_or_pos (numOf x) with e | e
  · have := h4 e
    rw [show b = true from hs] at this
    cases this
  · exact e

end Go.Proofs.YtlfghhmphgidjaaGreatDoor
/-
  What the law on sums, products, differences and quotients compares. (Pure.)
-/
namespace Go.Proofs.YtlfghhmphgidjaaGreatDoor
open Go.RowKit Num

theorem opRes_yes {b1 : Bool} {x1 y1 : ByteArray} {b2 : Bool} {x2 y2 : ByteArray} {o : Bool × Nat × Nat} {rb : Bool} {rx ry : ByteArray} (h : opRes b1 x1 y1 b2 x2 y2 o = .tuple #[.agg #[.bool rb, .string rx, .string ry], .bool true]) :
    validR b1 x1 y1 = true ∧ validR b2 x2 y2 = true ∧ fits o.2.1 o.2.2 = true ∧ rb = o.1 ∧ rx = dec o.2.1 ∧ ry = dec o.2.2 := by
  unfold opRes at h
  split at h
  · rename_i hv
    rw [Bool.and_eq_true] at hv
    unfold ratRes at h
    split at h
    · rename_i hf
      simp [okRat] at h
      exact ⟨hv.1, hv.2, hf, h.1.symm, h.2.1.symm, h.2.2.symm⟩
    · simp [noRat] at h
  · simp [noRat] at h

theorem divRes_yes {b1 : Bool} {x1 y1 : ByteArray} {b2 : Bool} {x2 y2 : ByteArray} {rb : Bool} {rx ry : ByteArray} (h : divRes b1 x1 y1 b2 x2 y2 = .tuple #[.agg #[.bool rb, .string rx, .string ry], .bool true]) :
    validR b1 x1 y1 = true ∧ validR b2 x2 y2 = true ∧ 0 < numOf x2 ∧ fits (mulO b1 (numOf x1) (numOf y1) b2 (numOf y2) (numOf x2)).2.1 (mulO b1 (numOf x1) (numOf y1) b2 (numOf y2) (numOf x2)).2.2 = true ∧ rb = (mulO b1 (numOf x1) (numOf y1) b2 (numOf y2) (numOf x2)).1 ∧ rx = dec (mulO b1 (numOf x1) (numOf y1) b2 (numOf y2) (numOf x2)).2.1 ∧ ry = dec (mulO b1 (numOf x1) (numOf y1) b2 (numOf y2) (numOf x2)).2.2 := by
  unfold divRes at h
  split at h
  · rename_i hv
    rw [Bool.and_eq_true, Bool.and_eq_true, decide_eq_true_eq] at hv
    unfold ratRes at h
    split at h
    · rename_i hf
      simp [okRat] at h
      exact ⟨hv.1.1, hv.1.2, hv.2, hf, h.1.symm, h.2.1.symm, h.2.2.symm⟩
    · simp [noRat] at h
  · simp [noRat] at h

theorem addRes_comm (b1 : Bool) (x1 y1 : ByteArray) (b2 : Bool) (x2 y2 : ByteArray) :
    opRes b2 x2 y2 b1 x1 y1 (addO b2 (numOf x2) (numOf y2) b1 (numOf x1) (numOf y1)) = opRes b1 x1 y1 b2 x2 y2 (addO b1 (numOf x1) (numOf y1) b2 (numOf x2) (numOf y2)) := by
  unfold opRes
  rw [Bool.and_comm]
  by_cases h : (validR b1 x1 y1 && validR b2 x2 y2) = true
  · rw [if_pos h, if_pos h]
    rw [Bool.and_eq_true] at h
    rw [addO_comm _ _ _ _ _ _ (low_valid h.2).pos (low_valid h.1).pos]
  · rw [if_neg h, if_neg h]

theorem mulRes_comm (b1 : Bool) (x1 y1 : ByteArray) (b2 : Bool) (x2 y2 : ByteArray) :
    opRes b2 x2 y2 b1 x1 y1 (mulO b2 (numOf x2) (numOf y2) b1 (numOf x1) (numOf y1)) = opRes b1 x1 y1 b2 x2 y2 (mulO b1 (numOf x1) (numOf y1) b2 (numOf x2) (numOf y2)) := by
  unfold opRes
  rw [Bool.and_comm, mulO_comm]

theorem sub_back {b1 : Bool} {x1 y1 : ByteArray} {b2 : Bool} {x2 y2 : ByteArray} {rb : Bool} {rx ry : ByteArray} (h : opRes b1 x1 y1 b2 x2 y2 (addO b1 (numOf x1) (numOf y1) b2 (numOf x2) (numOf y2)) = .tuple #[.agg #[.bool rb, .string rx, .string ry], .bool true]) :
    opRes rb rx ry b2 x2 y2 (addO rb (numOf rx) (numOf ry) (!b2 && decide (0 < numOf x2)) (numOf x2) (numOf y2)) = .tuple #[.agg #[.bool b1, .string x1, .string y1], .bool true] := by
  obtain ⟨v1, v2, hf, rfl, rfl, rfl⟩ := opRes_yes h
  rw [numOf_dec, numOf_dec, add_sub _ _ _ _ _ _ (low_valid v1) (low_valid v2).pos]
  unfold opRes
  have hv : validR (addO b1 (numOf x1) (numOf y1) b2 (numOf x2) (numOf y2)).1 (dec (addO b1 (numOf x1) (numOf y1) b2 (numOf x2) (numOf y2)).2.1) (dec (addO b1 (numOf x1) (numOf y1) b2 (numOf x2) (numOf y2)).2.2) = true := validR_dec (addO_LowO _ _ _ _ _ _ (low_valid v1).pos (low_valid v2).pos) hf
  rw [hv, v2]
  exact ratRes_valid v1

theorem mul_back {b1 : Bool} {x1 y1 : ByteArray} {b2 : Bool} {x2 y2 : ByteArray} {rb : Bool} {rx ry : ByteArray} (h : divRes b1 x1 y1 b2 x2 y2 = .tuple #[.agg #[.bool rb, .string rx, .string ry], .bool true]) :
    opRes rb rx ry b2 x2 y2 (mulO rb (numOf rx) (numOf ry) b2 (numOf x2) (numOf y2)) = .tuple #[.agg #[.bool b1, .string x1, .string y1], .bool true] := by
  obtain ⟨v1, v2, hx, hf, rfl, rfl, rfl⟩ := divRes_yes h
  rw [numOf_dec, numOf_dec, div_mul _ _ _ _ _ _ (low_valid v1) (low_valid v2).pos hx]
  unfold opRes
  have hv : validR (mulO b1 (numOf x1) (numOf y1) b2 (numOf y2) (numOf x2)).1 (dec (mulO b1 (numOf x1) (numOf y1) b2 (numOf y2) (numOf x2)).2.1) (dec (mulO b1 (numOf x1) (numOf y1) b2 (numOf y2) (numOf x2)).2.2) = true := validR_dec (mulO_LowO _ _ _ _ _ _ (low_valid v1).pos hx) hf
  rw [hv, v2]
  exact ratRes_valid v1

theorem sgn_mul {a b p q : Int} (hp : 0 < p) (hq : 0 < q) (h : a * p = b * q) : sgn a = sgn b := by
  have key : ∀ {a b p q : Int}, 0 < p → 0 < q → a * p = b * q → a < 0 → b < 0 := by
    intro a b p q hp hq h ha
    have h1 : a * p < 0 := Int.mul_neg_of_neg_of_pos ha hp
    rcases Int.lt_or_le b 0 with hb | hb
    · exact hb
    · have := Int.mul_nonneg hb (Int.le_of_lt hq)
      omega
  have pos : ∀ {a b p q : Int}, 0 < p → 0 < q → a * p = b * q → 0 < a → 0 < b := by
    intro a b p q hp hq h ha
    have h1 : 0 < a * p := Int.mul_pos ha hp
    rcases Int.lt_or_le 0 b with hb | hb
    · exact hb
    · have := Int.mul_nonpos_of_nonpos_of_nonneg hb (Int.le_of_lt hq)
      omega
  have k1 := @key a b p q hp hq h
  have k2 := @key b a q p hq hp h.symm
  have k3 := @pos a b p q hp hq h
  have k4 := @pos b a q p hq hp h.symm
  unfold sgn
  split <;> split <;> (try split) <;> (try split) <;> omega

theorem cmpR_sgn (b1 : Bool) (n1 d1 : Nat) (b2 : Bool) (n2 d2 : Nat) (h1 : b1 = true → 0 < n1) (h2 : b2 = true → 0 < n2) (p1 : 0 < d1) (p2 : 0 < d2) :
    cmpR b1 n1 d1 b2 n2 d2 = sgn (zI b1 n1 * (d2 : Int) - zI b2 n2 * (d1 : Int)) := by
  have e1 := zI_mul b1 n1 d2
  have e2 := zI_mul b2 n2 d1
  rw [← e1, ← e2]
  have q1 : b1 = true → 0 < n1 * d2 := fun h => Nat.mul_pos (h1 h) p2
  have q2 : b2 = true → 0 < n2 * d1 := fun h => Nat.mul_pos (h2 h) p1
  unfold cmpR
  obtain ⟨X, hX⟩ : ∃ X, X = n1 * d2 := ⟨_, rfl⟩
  obtain ⟨Y, hY⟩ : ∃ Y, Y = n2 * d1 := ⟨_, rfl⟩
  rw [← hX] at q1 ⊢
  rw [← hY] at q2 ⊢
  cases b1 <;> cases b2 <;> simp [zI, cmpI, sgn] at q1 q2 ⊢ <;> (repeat' split) <;> omega

theorem ratOf_zero : ratOf 0 1 = .tuple #[.agg #[.bool false, .string (dec 0), .string (dec 1)], .bool true] := by
  unfold ratOf
  simp
  unfold ratRes fits
  rw [decL_small 0 (by omega), decL_small 1 (by omega)]
  rfl

/-- The order agrees with the sign of the difference. -/
theorem cmp_back {b1 : Bool} {x1 y1 : ByteArray} {b2 : Bool} {x2 y2 : ByteArray} {rb : Bool} {rx ry : ByteArray} (h : opRes b1 x1 y1 b2 x2 y2 (addO b1 (numOf x1) (numOf y1) (!b2 && decide (0 < numOf x2)) (numOf x2) (numOf y2)) = .tuple #[.agg #[.bool rb, .string rx, .string ry], .bool true]) :
    (validR b1 x1 y1 && validR b2 x2 y2) = true ∧ (validR rb rx ry && validR false (dec 0) (dec 1)) = true ∧ cmpRes rb rx ry false (dec 0) (dec 1) = cmpRes b1 x1 y1 b2 x2 y2 := by
  obtain ⟨v1, v2, hf, rfl, rfl, rfl⟩ := opRes_yes h
  have l1 := low_valid v1
  have l2 := low_valid v2
  have lo := addO_LowO b1 (numOf x1) (numOf y1) (!b2 && decide (0 < numOf x2)) (numOf x2) (numOf y2) l1.pos l2.pos
  have hv := addO_value b1 (numOf x1) (numOf y1) (!b2 && decide (0 < numOf x2)) (numOf x2) (numOf y2) l1.pos l2.pos
  rw [zI_neg] at hv
  obtain ⟨o, ho⟩ : ∃ o, o = addO b1 (numOf x1) (numOf y1) (!b2 && decide (0 < numOf x2)) (numOf x2) (numOf y2) := ⟨_, rfl⟩
  rw [← ho] at lo hv hf ⊢
  have v3 : validR o.1 (dec o.2.1) (dec o.2.2) = true := validR_dec lo hf
  have v0 : validR false (dec 0) (dec 1) = true := validR_dec (sg := false) (N := 0) (D := 1) ⟨Nat.one_pos, Nat.gcd_one_right 0, fun h => by cases h⟩ (by unfold fits; rw [decL_small 0 (by omega), decL_small 1 (by omega)]; rfl)
  refine ⟨by rw [v1, v2]; rfl, by rw [v3, v0]; rfl, ?_⟩
  unfold cmpRes
  rw [if_pos (by rw [v3, v0]; rfl), if_pos (by rw [v1, v2]; rfl), numOf_dec, numOf_dec, numOf_dec, numOf_dec]
  rw [cmpR_sgn o.1 o.2.1 o.2.2 false 0 1 lo.sign (fun h => by cases h) lo.pos Nat.one_pos, cmpR_sgn _ _ _ _ _ _ l1.sign l2.sign l1.pos l2.pos]
  refine sgn_mul (p := ((numOf y1 * numOf y2 : Nat) : Int)) (q := (o.2.2 : Int)) (Int.natCast_pos.2 (Nat.mul_pos l1.pos l2.pos)) (Int.natCast_pos.2 lo.pos) ?_
  have e : zI o.1 o.2.1 * ((1 : Nat) : Int) - zI false 0 * (o.2.2 : Int) = zI o.1 o.2.1 := by simp [zI]
  rw [e, hv, Int.neg_mul, Int.sub_eq_add_neg]

end Go.Proofs.YtlfghhmphgidjaaGreatDoor
