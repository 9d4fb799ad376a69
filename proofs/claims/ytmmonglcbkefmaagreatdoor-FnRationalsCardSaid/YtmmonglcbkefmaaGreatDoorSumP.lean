/-
  Sums of fractions in lowest terms: a fraction in lowest terms is determined by its value, so sums may be bracketed as one likes. (Pure; for SumRats and the law on rationals.)
-/
import Derived.Test.YtmmonglcbkefmaaGreatDoorSpecMD
namespace Go.Proofs.YtmmonglcbkefmaaGreatDoor
open Go.RowKit Num

/-- A sign and a magnitude as an integer. -/
def zI (b : Bool) (n : Nat) : Int := if b = true then -(n : Int) else (n : Int)

/-- In lowest terms. -/
structure LowO (o : Bool × Nat × Nat) : Prop where
  pos : 0 < o.2.2
  gcd : Nat.gcd o.2.1 o.2.2 = 1
  sign : o.1 = true → 0 < o.2.1

theorem zI_sum (b1 : Bool) (x : Nat) (b2 : Bool) (y : Nat) : zI (sgnSum b1 x b2 y).1 (sgnSum b1 x b2 y).2 = zI b1 x + zI b2 y := by
  unfold sgnSum zI
  by_cases h : b1 = b2
  · subst h
    simp only [if_true]
    split <;> omega
  · simp only [if_neg h]
    by_cases hl : x < y
    · simp only [if_pos hl]
      cases b1 <;> cases b2 <;> simp_all <;> omega
    · simp only [if_neg hl]
      cases b1 <;> cases b2 <;> simp_all <;> omega

theorem zI_norm (b : Bool) (n : Nat) : zI (b && decide (0 < n)) n = zI b n := by
  unfold zI
  by_cases h : 0 < n
  · rw [decide_eq_true h, Bool.and_true]
  · obtain rfl : n = 0 := by omega
    cases b <;> rfl

theorem zI_mul (b : Bool) (n k : Nat) : zI b (n * k) = zI b n * (k : Int) := by
  unfold zI
  split
  · rw [Int.natCast_mul, Int.neg_mul]
  · rw [Int.natCast_mul]

theorem zI_abs (b : Bool) (n : Nat) : (zI b n).natAbs = n := by
  unfold zI
  split <;> omega

/-- A fraction in lowest terms is determined by its value. -/
theorem low_unique {a c : Bool × Nat × Nat} (ha : LowO a) (hc : LowO c) (h : zI a.1 a.2.1 * (c.2.2 : Int) = zI c.1 c.2.1 * (a.2.2 : Int)) : a = c := by
  obtain ⟨b1, n1, d1⟩ := a
  obtain ⟨b2, n2, d2⟩ := c
  obtain ⟨p1, g1, s1⟩ := ha
  obtain ⟨p2, g2, s2⟩ := hc
  simp only at p1 g1 s1 p2 g2 s2 h
  have habs : n1 * d2 = n2 * d1 := by
    have h1 := congrArg Int.natAbs h
    rw [Int.natAbs_mul, Int.natAbs_mul, zI_abs, zI_abs, Int.natAbs_natCast, Int.natAbs_natCast] at h1
    exact h1
  have hd : d1 = d2 := by
    have k1 : d1 ∣ d2 := by
      have : d1 ∣ n1 * d2 := ⟨n2, by rw [habs, Nat.mul_comm]⟩
      exact (Nat.Coprime.symm g1).dvd_of_dvd_mul_left this
    have k2 : d2 ∣ d1 := by
      have : d2 ∣ n2 * d1 := ⟨n1, by rw [← habs, Nat.mul_comm]⟩
      exact (Nat.Coprime.symm g2).dvd_of_dvd_mul_left this
    exact Nat.dvd_antisymm k1 k2
  subst hd
  have hn : n1 = n2 := Nat.eq_of_mul_eq_mul_right p1 habs
  subst hn
  have hb : b1 = b2 := by
    by_cases h0 : 0 < n1
    · have hz : zI b1 n1 = zI b2 n1 := Int.eq_of_mul_eq_mul_right (by omega) h
      unfold zI at hz
      cases b1 <;> cases b2 <;> simp at hz <;> first | rfl | omega
    · cases b1 <;> cases b2
      · rfl
      · exact absurd (s2 rfl) h0
      · exact absurd (s1 rfl) h0
      · rfl
  rw [hb]

theorem addO_LowO (b1 : Bool) (n1 d1 : Nat) (b2 : Bool) (n2 d2 : Nat) (p1 : 0 < d1) (p2 : 0 < d2) : LowO (addO b1 n1 d1 b2 n2 d2) := by
  have hp := Nat.mul_pos p1 p2
  unfold addO
  refine ⟨low_pos hp, low_gcd hp, fun h => ?_⟩
  simp only [Bool.and_eq_true, decide_eq_true_eq] at h
  exact low_num h.2 hp

theorem mulO_LowO (b1 : Bool) (n1 d1 : Nat) (b2 : Bool) (n2 d2 : Nat) (p1 : 0 < d1) (p2 : 0 < d2) : LowO (mulO b1 n1 d1 b2 n2 d2) := by
  have hp := Nat.mul_pos p1 p2
  unfold mulO
  refine ⟨low_pos hp, low_gcd hp, fun h => ?_⟩
  simp only [Bool.and_eq_true, decide_eq_true_eq] at h
  exact low_num h.2 hp

/-- The value of a fraction that has been brought to lowest terms. -/
theorem low_value (b : Bool) (n d : Nat) (hd : 0 < d) : zI (b && decide (0 < n)) (n / Nat.gcd n d) * (d : Int) = zI b n * ((d / Nat.gcd n d : Nat) : Int) := by
  have hg : 0 < Nat.gcd n d := Nat.gcd_pos_of_pos_right _ hd
  obtain ⟨a, ha⟩ := Nat.gcd_dvd_left n d
  obtain ⟨c, hc⟩ := Nat.gcd_dvd_right n d
  obtain ⟨g, hgg⟩ : ∃ g, g = Nat.gcd n d := ⟨_, rfl⟩
  rw [← hgg] at ha hc hg ⊢
  have ea : n / g = a := by rw [ha, Nat.mul_div_cancel_left _ hg]
  have ec : d / g = c := by rw [hc, Nat.mul_div_cancel_left _ hg]
  rw [ea, ec]
  have hz : zI (b && decide (0 < n)) a = zI b a := by
    unfold zI
    by_cases h0 : 0 < n
    · rw [decide_eq_true h0, Bool.and_true]
    · have : a = 0 := by
        rcases Nat.eq_zero_or_pos a with e | e
        · exact e
        · have := Nat.mul_pos hg e; omega
      subst this
      cases b <;> simp
  rw [hz]
  have e1 : zI b n = zI b a * (g : Int) := by rw [ha, Nat.mul_comm, zI_mul]
  rw [e1, hc, Int.natCast_mul, Int.mul_assoc]

theorem addO_value (b1 : Bool) (n1 d1 : Nat) (b2 : Bool) (n2 d2 : Nat) (p1 : 0 < d1) (p2 : 0 < d2) :
    zI (addO b1 n1 d1 b2 n2 d2).1 (addO b1 n1 d1 b2 n2 d2).2.1 * ((d1 * d2 : Nat) : Int) = (zI b1 n1 * (d2 : Int) + zI b2 n2 * (d1 : Int)) * ((addO b1 n1 d1 b2 n2 d2).2.2 : Int) := by
  unfold addO
  simp only
  rw [low_value _ _ _ (Nat.mul_pos p1 p2), zI_sum, zI_mul, zI_mul]

theorem addO_comm (b1 : Bool) (n1 d1 : Nat) (b2 : Bool) (n2 d2 : Nat) (p1 : 0 < d1) (p2 : 0 < d2) : addO b1 n1 d1 b2 n2 d2 = addO b2 n2 d2 b1 n1 d1 := by
  refine low_unique (addO_LowO _ _ _ _ _ _ p1 p2) (addO_LowO _ _ _ _ _ _ p2 p1) ?_
  have h1 := addO_value b1 n1 d1 b2 n2 d2 p1 p2
  have h2 := addO_value b2 n2 d2 b1 n1 d1 p2 p1
  have hp : (0 : Int) < ((d1 * d2 : Nat) : Int) := by exact_mod_cast Nat.mul_pos p1 p2
  refine Int.eq_of_mul_eq_mul_right (Int.ne_of_gt hp) ?_
  rw [Nat.mul_comm d2 d1] at h2
  rw [Int.mul_right_comm, h1, Int.mul_right_comm (zI (addO b2 n2 d2 b1 n1 d1).1 _), h2, Int.add_comm, Int.mul_right_comm]

/-- Cancelling a positive denominator. -/
theorem cancel_den {a b : Int} {d : Nat} (hd : 0 < d) (h : a * (d : Int) = b * (d : Int)) : a = b :=
  Int.eq_of_mul_eq_mul_right (by omega) h

theorem addO_pos (b1 : Bool) (n1 d1 : Nat) (b2 : Bool) (n2 d2 : Nat) (p1 : 0 < d1) (p2 : 0 < d2) : 0 < (addO b1 n1 d1 b2 n2 d2).2.2 := (addO_LowO b1 n1 d1 b2 n2 d2 p1 p2).pos

/-- Sums may be bracketed as one likes. -/
theorem addO_assoc (b1 : Bool) (n1 d1 : Nat) (b2 : Bool) (n2 d2 : Nat) (b3 : Bool) (n3 d3 : Nat) (p1 : 0 < d1) (p2 : 0 < d2) (p3 : 0 < d3) :
    addO (addO b1 n1 d1 b2 n2 d2).1 (addO b1 n1 d1 b2 n2 d2).2.1 (addO b1 n1 d1 b2 n2 d2).2.2 b3 n3 d3 =
    addO b1 n1 d1 (addO b2 n2 d2 b3 n3 d3).1 (addO b2 n2 d2 b3 n3 d3).2.1 (addO b2 n2 d2 b3 n3 d3).2.2 := by
  have hx := addO_value b1 n1 d1 b2 n2 d2 p1 p2
  have hy := addO_value b2 n2 d2 b3 n3 d3 p2 p3
  have px := addO_pos b1 n1 d1 b2 n2 d2 p1 p2
  have py := addO_pos b2 n2 d2 b3 n3 d3 p2 p3
  obtain ⟨⟨bx, nx, dx⟩, ex⟩ : ∃ o, o = addO b1 n1 d1 b2 n2 d2 := ⟨_, rfl⟩
  obtain ⟨⟨by', ny, dy⟩, ey⟩ : ∃ o, o = addO b2 n2 d2 b3 n3 d3 := ⟨_, rfl⟩
  rw [← ex] at hx px ⊢
  rw [← ey] at hy py ⊢
  simp only at hx hy px py ⊢
  have hu := addO_value bx nx dx b3 n3 d3 px p3
  have hv := addO_value b1 n1 d1 by' ny dy p1 py
  refine low_unique (addO_LowO _ _ _ _ _ _ px p3) (addO_LowO _ _ _ _ _ _ p1 py) ?_
  obtain ⟨⟨bu, nu, du⟩, eu⟩ : ∃ o, o = addO bx nx dx b3 n3 d3 := ⟨_, rfl⟩
  obtain ⟨⟨bv, nv, dv⟩, ev⟩ : ∃ o, o = addO b1 n1 d1 by' ny dy := ⟨_, rfl⟩
  rw [← eu] at hu ⊢
  rw [← ev] at hv ⊢
  simp only at hu hv ⊢
  obtain ⟨z1, e1⟩ : ∃ z, z = zI b1 n1 := ⟨_, rfl⟩
  obtain ⟨z2, e2⟩ : ∃ z, z = zI b2 n2 := ⟨_, rfl⟩
  obtain ⟨z3, e3⟩ : ∃ z, z = zI b3 n3 := ⟨_, rfl⟩
  obtain ⟨zx, e4⟩ : ∃ z, z = zI bx nx := ⟨_, rfl⟩
  obtain ⟨zy, e5⟩ : ∃ z, z = zI by' ny := ⟨_, rfl⟩
  obtain ⟨zu, e6⟩ : ∃ z, z = zI bu nu := ⟨_, rfl⟩
  obtain ⟨zv, e7⟩ : ∃ z, z = zI bv nv := ⟨_, rfl⟩
  rw [← e1, ← e2, ← e4] at hx
  rw [← e2, ← e3, ← e5] at hy
  rw [← e3, ← e4, ← e6] at hu
  rw [← e1, ← e5, ← e7] at hv
  rw [← e6, ← e7]
  clear e1 e2 e3 e4 e5 e6 e7 ex ey eu ev
  rw [Int.natCast_mul] at hx hy hu hv
  -- zu/du = zx/dx + z3/d3, zv/dv = z1/d1 + zy/dy, zx/dx = z1/d1 + z2/d2, zy/dy = z2/d2 + z3/d3
  have q : (0 : Int) < (d1 : Int) * d2 * d3 * dx * dy := by
    have := Nat.mul_pos (Nat.mul_pos (Nat.mul_pos (Nat.mul_pos p1 p2) p3) px) py
    have h2 : ((d1 * d2 * d3 * dx * dy : Nat) : Int) = (d1 : Int) * d2 * d3 * dx * dy := by simp [Int.natCast_mul]
    rw [← h2]; omega
  refine Int.eq_of_mul_eq_mul_right (Int.ne_of_gt q) ?_
  have hA : zu * ((dx : Int) * d3) * (dv * (d1 * d2 * dy)) = (zx * d3 + z3 * dx) * du * (dv * (d1 * d2 * dy)) := by rw [hu]
  have hB : zv * ((d1 : Int) * dy) * (du * (d2 * d3 * dx)) = (z1 * dy + zy * d1) * dv * (du * (d2 * d3 * dx)) := by rw [hv]
  have hC : zx * ((d1 : Int) * d2) * (d3 * du * dv * dy) = (z1 * d2 + z2 * d1) * dx * (d3 * du * dv * dy) := by rw [hx]
  have hD : zy * ((d2 : Int) * d3) * (d1 * du * dv * dx) = (z2 * d3 + z3 * d2) * dy * (d1 * du * dv * dx) := by rw [hy]
  have e1 : zu * (dv : Int) * (d1 * d2 * d3 * dx * dy) = zu * ((dx : Int) * d3) * (dv * (d1 * d2 * dy)) := by ac_rfl
  have e2 : zv * (du : Int) * (d1 * d2 * d3 * dx * dy) = zv * ((d1 : Int) * dy) * (du * (d2 * d3 * dx)) := by ac_rfl
  rw [e1, e2, hA, hB]
  have e3 : (zx * (d3 : Int) + z3 * dx) * du * (dv * (d1 * d2 * dy)) = zx * ((d1 : Int) * d2) * (d3 * du * dv * dy) + z3 * (d1 * d2 * dx * dy * du * dv) := by
    rw [Int.add_mul, Int.add_mul]; congr 1 <;> ac_rfl
  have e4 : (z1 * (dy : Int) + zy * d1) * dv * (du * (d2 * d3 * dx)) = zy * ((d2 : Int) * d3) * (d1 * du * dv * dx) + z1 * (d2 * d3 * dx * dy * du * dv) := by
    rw [Int.add_mul, Int.add_mul, Int.add_comm]; congr 1 <;> ac_rfl
  rw [e3, e4, hC, hD]
  have e5 : (z1 * (d2 : Int) + z2 * d1) * dx * (d3 * du * dv * dy) = z1 * (d2 * d3 * dx * dy * du * dv) + z2 * (d1 * d3 * dx * dy * du * dv) := by
    rw [Int.add_mul, Int.add_mul]; congr 1 <;> ac_rfl
  have e6 : (z2 * (d3 : Int) + z3 * d2) * dy * (d1 * du * dv * dx) = z2 * (d1 * d3 * dx * dy * du * dv) + z3 * (d1 * d2 * dx * dy * du * dv) := by
    rw [Int.add_mul, Int.add_mul]; congr 1 <;> ac_rfl
  rw [e5, e6]
  omega

theorem zI_neg (b : Bool) (n : Nat) : zI (!b && decide (0 < n)) n = -zI b n := by
  rw [zI_norm]
  unfold zI
  cases b <;> simp

/-- Nought added. -/
theorem addO_nought (b : Bool) (n d : Nat) (h : LowO (b, n, d)) : addO b n d false 0 1 = (b, n, d) := by
  have hp := h.pos
  refine low_unique (addO_LowO _ _ _ _ _ _ hp (by omega)) h ?_
  have hv := addO_value b n d false 0 1 hp (by omega)
  have h0 : zI false 0 = 0 := rfl
  rw [h0, Int.zero_mul, Int.add_zero, Nat.mul_one] at hv
  have h1 : ((1 : Nat) : Int) = 1 := rfl
  rw [h1, Int.mul_one] at hv
  exact hv

/-- A number and its negative. -/
theorem addO_neg (b : Bool) (n d : Nat) (hd : 0 < d) : addO b n d (!b && decide (0 < n)) n d = (false, 0, 1) := by
  refine low_unique (addO_LowO _ _ _ _ _ _ hd hd) ⟨Nat.one_pos, Nat.gcd_one_right 0, fun h => by cases h⟩ ?_
  have hv := addO_value b n d (!b && decide (0 < n)) n d hd hd
  rw [zI_neg, Int.neg_mul, Int.add_right_neg, Int.zero_mul] at hv
  have hz : zI (addO b n d (!b && decide (0 < n)) n d).1 (addO b n d (!b && decide (0 < n)) n d).2.1 = 0 := by
    rcases Int.mul_eq_zero.1 hv with h | h
    · exact h
    · have := Nat.mul_pos hd hd; omega
  show zI _ _ * ((1 : Nat) : Int) = zI false 0 * _
  rw [hz, Int.zero_mul]
  show (0 : Int) = 0 * _
  rw [Int.zero_mul]

/-- (a + b) - b = a. -/
theorem add_sub (b1 : Bool) (n1 d1 : Nat) (b2 : Bool) (n2 d2 : Nat) (h1 : LowO (b1, n1, d1)) (p2 : 0 < d2) :
    addO (addO b1 n1 d1 b2 n2 d2).1 (addO b1 n1 d1 b2 n2 d2).2.1 (addO b1 n1 d1 b2 n2 d2).2.2 (!b2 && decide (0 < n2)) n2 d2 = (b1, n1, d1) := by
  rw [addO_assoc b1 n1 d1 b2 n2 d2 _ n2 d2 h1.pos p2 p2, addO_neg b2 n2 d2 p2]
  exact addO_nought b1 n1 d1 h1

theorem zI_prod (b1 : Bool) (n1 : Nat) (b2 : Bool) (n2 : Nat) : zI ((b1 != b2) && decide (0 < n1 * n2)) (n1 * n2) = zI b1 n1 * zI b2 n2 := by
  rw [zI_norm]
  unfold zI
  cases b1 <;> cases b2 <;> simp [Int.natCast_mul, Int.neg_mul, Int.mul_neg]

theorem mulO_value (b1 : Bool) (n1 d1 : Nat) (b2 : Bool) (n2 d2 : Nat) (p1 : 0 < d1) (p2 : 0 < d2) :
    zI (mulO b1 n1 d1 b2 n2 d2).1 (mulO b1 n1 d1 b2 n2 d2).2.1 * ((d1 * d2 : Nat) : Int) = zI b1 n1 * zI b2 n2 * ((mulO b1 n1 d1 b2 n2 d2).2.2 : Int) := by
  unfold mulO
  simp only
  rw [low_value _ _ _ (Nat.mul_pos p1 p2), ← zI_prod, zI_norm]

theorem mulO_comm (b1 : Bool) (n1 d1 : Nat) (b2 : Bool) (n2 d2 : Nat) : mulO b1 n1 d1 b2 n2 d2 = mulO b2 n2 d2 b1 n1 d1 := by
  unfold mulO
  rw [Nat.mul_comm n2 n1, Nat.mul_comm d2 d1, show (b2 != b1) = (b1 != b2) by cases b1 <;> cases b2 <;> rfl]

/-- (a / b) * b = a. -/
theorem div_mul (b1 : Bool) (n1 d1 : Nat) (b2 : Bool) (n2 d2 : Nat) (h1 : LowO (b1, n1, d1)) (p2 : 0 < d2) (q2 : 0 < n2) :
    mulO (mulO b1 n1 d1 b2 d2 n2).1 (mulO b1 n1 d1 b2 d2 n2).2.1 (mulO b1 n1 d1 b2 d2 n2).2.2 b2 n2 d2 = (b1, n1, d1) := by
  have p1 := h1.pos
  simp only at p1
  have hx := mulO_value b1 n1 d1 b2 d2 n2 p1 q2
  have px := (mulO_LowO b1 n1 d1 b2 d2 n2 p1 q2).pos
  obtain ⟨⟨bx, nx, dx⟩, ex⟩ : ∃ o, o = mulO b1 n1 d1 b2 d2 n2 := ⟨_, rfl⟩
  rw [← ex] at hx px ⊢
  simp only at hx px ⊢
  have hu := mulO_value bx nx dx b2 n2 d2 px p2
  refine low_unique (mulO_LowO _ _ _ _ _ _ px p2) h1 ?_
  obtain ⟨⟨bu, nu, du⟩, eu⟩ : ∃ o, o = mulO bx nx dx b2 n2 d2 := ⟨_, rfl⟩
  rw [← eu] at hu ⊢
  simp only at hu ⊢
  have e2 : zI b2 d2 * zI b2 n2 = ((d2 * n2 : Nat) : Int) := by
    unfold zI
    cases b2 <;> simp [Int.natCast_mul, Int.neg_mul, Int.mul_neg]
  obtain ⟨z1, f1⟩ : ∃ z, z = zI b1 n1 := ⟨_, rfl⟩
  obtain ⟨zx, f2⟩ : ∃ z, z = zI bx nx := ⟨_, rfl⟩
  obtain ⟨zu, f3⟩ : ∃ z, z = zI bu nu := ⟨_, rfl⟩
  obtain ⟨za, f4⟩ : ∃ z, z = zI b2 d2 := ⟨_, rfl⟩
  obtain ⟨zb, f5⟩ : ∃ z, z = zI b2 n2 := ⟨_, rfl⟩
  rw [← f1, ← f2, ← f4] at hx
  rw [← f2, ← f3, ← f5] at hu
  rw [← f4, ← f5] at e2
  rw [← f1, ← f3]
  clear f1 f2 f3 f4 f5 ex eu
  rw [Int.natCast_mul] at hx hu e2
  have q : (0 : Int) < (dx : Int) * d2 * n2 := by
    have := Nat.mul_pos (Nat.mul_pos px p2) q2
    have h2 : ((dx * d2 * n2 : Nat) : Int) = (dx : Int) * d2 * n2 := by simp [Int.natCast_mul]
    rw [← h2]; omega
  refine Int.eq_of_mul_eq_mul_right (Int.ne_of_gt q) ?_
  have e3 : zu * (d1 : Int) * (dx * d2 * n2) = zu * ((dx : Int) * d2) * (d1 * n2) := by ac_rfl
  have e4 : zx * zb * (du : Int) * (d1 * n2) = zx * ((d1 : Int) * n2) * (zb * du) := by ac_rfl
  have e5 : z1 * za * (dx : Int) * (zb * du) = z1 * (za * zb) * (dx * du) := by ac_rfl
  rw [e3, hu, e4, hx, e5, e2]
  ac_rfl

end Go.Proofs.YtmmonglcbkefmaaGreatDoor
