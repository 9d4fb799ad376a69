/-
  Several texts in one: Lehm, Knuth, RowM, ReadM, ValM, KnuthM, LehmM, DivM, DivM2.
-/
import Derived.Test.YtbcckgofoknmbaaDoorNum
/-
  THE MATHEMATICS OF LEHMER's STEPS ON THE LEADING WORDS (Collins' condition), over the integers: no walk, no world.
-/
namespace Go.Proofs.YtbcckgofoknmbaaDoor.Lehm

structure Inv (A B x0 y0 s x y u0 v0 u1 v1 u v : Int) : Prop where
  hs : s = 1 ∨ s = -1
  hx : x = s * (u1 * x0 - v1 * y0)
  hy : y = s * (v * y0 - u * x0)
  det : u1 * v - v1 * u = s
  n0 : 0 ≤ u0
  m0 : 0 ≤ v0
  n1 : 0 ≤ u1
  m1 : 0 ≤ v1
  nu : 0 ≤ u
  nv : 1 ≤ v
  le : u ≤ v
  le1 : u1 ≤ v1 ∨ (u1 = 1 ∧ v1 = 0 ∧ u = 0 ∧ v = 1)
  yn : 0 ≤ y
  yx : y ≤ x
  x1 : 1 ≤ x
  small : v1 = 0 ∨ s * (u1 * A - v1 * B) ≤ B
  out : v0 = 0 ∨ (0 ≤ s * (u1 * A - v1 * B) ∧ s * (u1 * A - v1 * B) < s * (v0 * B - u0 * A) ∧ s * (v0 * B - u0 * A) ≤ B ∧ u0 * v1 - v0 * u1 = -s)

theorem sq {s : Int} (h : s = 1 ∨ s = -1) : s * s = 1 := by rcases h with rfl | rfl <;> rfl

theorem start (A B x0 y0 : Int) (h0 : 0 ≤ y0) (h1 : y0 ≤ x0) (h2 : 1 ≤ x0) : Inv A B x0 y0 1 x0 y0 0 0 1 0 0 1 where
  hs := Or.inl rfl
  hx := by grind
  hy := by grind
  det := rfl
  n0 := by decide
  m0 := by decide
  n1 := by decide
  m1 := by decide
  nu := by decide
  nv := by decide
  le := by decide
  le1 := Or.inr ⟨rfl, rfl, rfl, rfl⟩
  yn := h0
  yx := h1
  x1 := h2
  small := Or.inl rfl
  out := Or.inl rfl

/-- The cofactors and the remainders: so no cofactor is greater than the first leading word. -/
theorem Inv.cof {A B x0 y0 s x y u0 v0 u1 v1 u v : Int} (h : Inv A B x0 y0 s x y u0 v0 u1 v1 u v) : v * x + v1 * y = x0 ∧ u * x + u1 * y = y0 := by
  have hs := sq h.hs
  have hd := h.det
  constructor
  · have : v * x + v1 * y = (s * (u1 * v - v1 * u)) * x0 := by rw [h.hx, h.hy]; grind
    rw [this, hd, hs, Int.one_mul]
  · have : u * x + u1 * y = (s * (u1 * v - v1 * u)) * y0 := by rw [h.hx, h.hy]; grind
    rw [this, hd, hs, Int.one_mul]

theorem Inv.v_le {A B x0 y0 s x y u0 v0 u1 v1 u v : Int} (h : Inv A B x0 y0 s x y u0 v0 u1 v1 u v) : v ≤ x0 := by
  have h1 := h.cof.1
  have h2 : 0 ≤ v1 * y := Int.mul_nonneg h.m1 h.yn
  have h3 : v * 1 ≤ v * x := Int.mul_le_mul_of_nonneg_left h.x1 (by have := h.nv; omega)
  omega

theorem Inv.sum_le {A B x0 y0 s x y u0 v0 u1 v1 u v : Int} (h : Inv A B x0 y0 s x y u0 v0 u1 v1 u v) (hy : 1 ≤ y) : v1 + v ≤ x0 := by
  have h1 := h.cof.1
  have h2 : v1 * 1 ≤ v1 * y := Int.mul_le_mul_of_nonneg_left hy h.m1
  have h3 : v * 1 ≤ v * x := Int.mul_le_mul_of_nonneg_left h.x1 (by have := h.nv; omega)
  omega

/-- COLLINS' CONDITION: what the leading words say, the numbers obey. -/
theorem Inv.true_rest {A B W al be x0 y0 s x y u0 v0 u1 v1 u v : Int} (h : Inv A B x0 y0 s x y u0 v0 u1 v1 u v) (hA : A = x0 * W + al) (hB : B = y0 * W + be) (ha0 : 0 ≤ al) (ha1 : al < W) (hb0 : 0 ≤ be) (hb1 : be < W)
    (c1 : v ≤ y) (c2 : v1 + v ≤ x - y) : 0 ≤ s * (v * B - u * A) ∧ s * (v * B - u * A) < s * (u1 * A - v1 * B) := by
  have hW : 0 < W := by omega
  have e1 : s * (v * B - u * A) = y * W + s * (v * be - u * al) := by rw [h.hy, hA, hB]; grind
  have e2 : s * (u1 * A - v1 * B) = x * W + s * (u1 * al - v1 * be) := by rw [h.hx, hA, hB]; grind
  rw [e1, e2]
  have nv := h.nv
  have f1 : v * W ≤ y * W := Int.mul_le_mul_of_nonneg_right c1 (by omega)
  have f2 : (v1 + v) * W ≤ (x - y) * W := Int.mul_le_mul_of_nonneg_right c2 (by omega)
  have g1 : 0 ≤ v * be := Int.mul_nonneg (by omega) hb0
  have g2 : 0 ≤ u * al := Int.mul_nonneg h.nu ha0
  have g3 : 0 ≤ u1 * al := Int.mul_nonneg h.n1 ha0
  have g4 : 0 ≤ v1 * be := Int.mul_nonneg h.m1 hb0
  have k1 : v * be ≤ v * W := Int.mul_le_mul_of_nonneg_left (by omega) (by omega)
  have k2 : u * al ≤ v * al := Int.mul_le_mul_of_nonneg_right h.le ha0
  have k3 : v * al ≤ v * W := Int.mul_le_mul_of_nonneg_left (by omega) (by omega)
  have k4 : (v1 + v) * be < (v1 + v) * W := Int.mul_lt_mul_of_pos_left hb1 (by have := h.m1; omega)
  have k5 : (v1 + v) * al < (v1 + v) * W := Int.mul_lt_mul_of_pos_left ha1 (by have := h.m1; omega)
  have x1 : (x - y) * W = x * W - y * W := Int.sub_mul _ _ _
  have x2 : (v1 + v) * W = v1 * W + v * W := Int.add_mul _ _ _
  have x3 : (v1 + v) * be = v1 * be + v * be := Int.add_mul _ _ _
  have x4 : (v1 + v) * al = v1 * al + v * al := Int.add_mul _ _ _
  rcases h.hs with hs | hs
  · subst hs
    simp only [Int.one_mul]
    constructor <;> omega
  · subst hs
    have hl : u1 ≤ v1 := by
      rcases h.le1 with h1 | ⟨rfl, rfl, rfl, rfl⟩
      · exact h1
      · have := h.det
        omega
    have k6 : u1 * al ≤ v1 * al := Int.mul_le_mul_of_nonneg_right hl ha0
    simp only [Int.neg_one_mul]
    constructor <;> omega

theorem Inv.step {A B W al be x0 y0 s x y u0 v0 u1 v1 u v : Int} (h : Inv A B x0 y0 s x y u0 v0 u1 v1 u v) (hA : A = x0 * W + al) (hB : B = y0 * W + be) (ha0 : 0 ≤ al) (ha1 : al < W) (hb0 : 0 ≤ be) (hb1 : be < W)
    (c1 : v ≤ y) (c2 : v1 + v ≤ x - y) : Inv A B x0 y0 (-s) y (x % y) u1 v1 u v (u1 + x / y * u) (v1 + x / y * v) := by
  have hr := h.true_rest hA hB ha0 ha1 hb0 hb1 c1 c2
  have nv := h.nv
  have hy1 : 0 < y := by omega
  have hq : x % y = x - y * (x / y) := Int.emod_def x y
  have hq1 : 1 ≤ x / y := by
    have := (Int.le_ediv_iff_mul_le hy1 (a := 1) (b := x)).2 (by have := h.yx; omega)
    exact this
  have hm0 := Int.emod_nonneg x (show y ≠ 0 by omega)
  have hm1 := Int.emod_lt_of_pos x hy1
  obtain ⟨q, hqq⟩ : ∃ q, q = x / y := ⟨_, rfl⟩
  rw [← hqq] at hq hq1 ⊢
  have p1 : 0 ≤ q * u := Int.mul_nonneg (by omega) h.nu
  have p2 : 1 * v ≤ q * v := Int.mul_le_mul_of_nonneg_right hq1 (by omega)
  have p3 : q * u ≤ q * v := Int.mul_le_mul_of_nonneg_left h.le (by omega)
  refine ⟨?_, ?_, ?_, ?_, h.n1, h.m1, h.nu, by omega, by have := h.n1; omega, by have := h.m1; omega, ?_, Or.inl h.le, hm0, by omega, by omega, ?_, ?_⟩
  · rcases h.hs with e | e <;> omega
  · rw [h.hy]; grind
  · rw [hq, h.hx, h.hy]; grind
  · have := h.det; grind
  · rcases h.le1 with h1 | ⟨rfl, rfl, rfl, rfl⟩
    · omega
    · omega
  · right
    have e : -s * (u * A - v * B) = s * (v * B - u * A) := by grind
    rw [e]
    rcases h.le1 with h1 | ⟨rfl, rfl, rfl, rfl⟩
    · rcases h.small with h2 | h2
      · have : u1 = 0 := by have := h.n1; omega
        subst this; subst h2
        have := h.det
        rcases h.hs with e | e <;> omega
      · omega
    · have := h.det
      have hs : s = 1 := by omega
      subst hs
      omega
  · rcases h.small with h2 | h2
    · exact Or.inl h2
    · right
      have e : -s * (u * A - v * B) = s * (v * B - u * A) := by grind
      have e2 : -s * (v1 * B - u1 * A) = s * (u1 * A - v1 * B) := by grind
      rw [e, e2]
      exact ⟨hr.1, hr.2, h2, by have := h.det; omega⟩

/-- The steps keep the greatest common divisor. -/
theorem gcd_kept {A B A' B' s u0 v0 u1 v1 : Int} (hs : s = 1 ∨ s = -1) (hA : A' = s * (v0 * B - u0 * A)) (hB : B' = s * (u1 * A - v1 * B)) (hd : u0 * v1 - v0 * u1 = -s) : Int.gcd A' B' = Int.gcd A B := by
  have e := sq hs
  have b1 : A = v1 * A' + v0 * B' := by
    have : v1 * A' + v0 * B' = (s * -(u0 * v1 - v0 * u1)) * A := by rw [hA, hB]; grind
    rw [this, hd, Int.neg_neg, e, Int.one_mul]
  have b2 : B = u1 * A' + u0 * B' := by
    have : u1 * A' + u0 * B' = (s * -(u0 * v1 - v0 * u1)) * B := by rw [hA, hB]; grind
    rw [this, hd, Int.neg_neg, e, Int.one_mul]
  apply Nat.dvd_antisymm
  · apply Int.ofNat_dvd.1
    apply Int.dvd_coe_gcd
    · rw [b1]
      exact Int.dvd_add (Int.dvd_mul_of_dvd_right (Int.gcd_dvd_left ..)) (Int.dvd_mul_of_dvd_right (Int.gcd_dvd_right ..))
    · rw [b2]
      exact Int.dvd_add (Int.dvd_mul_of_dvd_right (Int.gcd_dvd_left ..)) (Int.dvd_mul_of_dvd_right (Int.gcd_dvd_right ..))
  · apply Int.ofNat_dvd.1
    apply Int.dvd_coe_gcd
    · rw [hA]
      exact Int.dvd_mul_of_dvd_right (Int.dvd_sub (Int.dvd_mul_of_dvd_right (Int.gcd_dvd_right ..)) (Int.dvd_mul_of_dvd_right (Int.gcd_dvd_left ..)))
    · rw [hB]
      exact Int.dvd_mul_of_dvd_right (Int.dvd_sub (Int.dvd_mul_of_dvd_right (Int.gcd_dvd_left ..)) (Int.dvd_mul_of_dvd_right (Int.gcd_dvd_right ..)))

end Go.Proofs.YtbcckgofoknmbaaDoor.Lehm
/-
  THE MATHEMATICS OF A STEP OF LONG DIVISION: the guess from the leading words is never too small. No walk, no world.
-/
namespace Go.Proofs.YtbcckgofoknmbaaDoor.Knuth

/-- A guess that is too great for the leading words is too great: D and W are the leading parts of the divisor d and of the window w, P the weight of what lies below. -/
theorem too_great {w d q g D W P : Nat} (hd : D * P ≤ d) (hw : w < (W + 1) * P) (hq : q * d ≤ w) (hg : W < g * D) : q < g := by
  by_cases h : g ≤ q
  · exfalso
    have h1 : g * D ≤ q * D := Nat.mul_le_mul_right _ h
    have h2 : g * D * P ≤ q * D * P := Nat.mul_le_mul_right _ h1
    have h3 : q * D * P ≤ q * d := by rw [Nat.mul_assoc]; exact Nat.mul_le_mul_left _ hd
    have h4 : (W + 1) * P ≤ g * D * P := Nat.mul_le_mul_right _ hg
    omega
  · omega

/-- The first guess. -/
theorem first {w d q D W P : Nat} (hD : 0 < D) (hd : D * P ≤ d) (hw : w < (W + 1) * P) (hq : q * d ≤ w) : q ≤ W / D := by
  have h : W < (W / D + 1) * D := by
    have := Nat.div_add_mod W D
    have := Nat.mod_lt W hD
    have e : (W / D + 1) * D = D * (W / D) + D := by rw [Nat.add_mul, Nat.one_mul, Nat.mul_comm]
    omega
  have := too_great hd hw hq h
  omega

/-- Where the guess times the divisor no longer passes the window, it is the quotient. -/
theorem done {w d q g : Nat} (h1 : g * d ≤ w) (h2 : w < (q + 1) * d) (h3 : q ≤ g) : g = q := by
  by_cases h : q + 1 ≤ g
  · have := Nat.mul_le_mul_right d h
    omega
  · omega

end Go.Proofs.YtbcckgofoknmbaaDoor.Knuth
/-
  THE MATHEMATICS OF THE LOOPS OVER WORDS: one step of each. No walk, no world.
-/
namespace Go.Proofs.YtbcckgofoknmbaaDoor.Step

/-- Subtracting a multiple: word by word. -/
theorem submul {P L X Y f c bo x y p c' d bo' B : Nat} (h : L + f * Y = X + (c + bo) * P) (h1 : y * f + c = p + c' * B) (h2 : d + p + bo = x + bo' * B) :
    (L + P * d) + f * (Y + P * y) = (X + P * x) + (c' + bo') * (P * B) := by
  grind

/-- .. behind the multiple's last word. -/
theorem subrest {P L X Y f c bo x d bo' B : Nat} (h : L + f * Y = X + (c + bo) * P) (h2 : d + c + bo = x + bo' * B) :
    (L + P * d) + f * Y = (X + P * x) + (0 + bo') * (P * B) := by
  grind

/-- Two multiples' difference, word by word. -/
theorem lehmer {P L X Y U V pc qc bo x y p q pc' qc' d bo' B : Nat} (h : L + V * Y + pc * P = U * X + (qc + bo) * P) (h1 : x * U + pc = p + pc' * B) (h2 : y * V + qc = q + qc' * B) (h3 : d + q + bo = p + bo' * B) :
    (L + P * d) + V * (Y + P * y) + pc' * (P * B) = U * (X + P * x) + (qc' + bo') * (P * B) := by
  grind

/-- Adding a multiple onto a row, word by word: the row's word r, the multiple's x * f. -/
theorem addmul {P L R Y f c r y lo hi s o B : Nat} (h : L + c * P = R + f * Y) (h1 : y * f + c = lo + hi * B) (h2 : r + lo = s + o * B) :
    (L + P * s) + (hi + o) * (P * B) = (R + P * r) + f * (Y + P * y) := by
  grind

/-- The word left behind by a difference with a borrow. -/
theorem borrow {B x p bo : Nat} (hx : x < B) (hp : p < B) (hb : bo ≤ 1) : (x + B - p - bo) % B + p + bo = x + (if x < p + bo then 1 else 0) * B := by
  by_cases h : x < p + bo
  · rw [if_pos h, Nat.one_mul]
    by_cases h2 : x + B - p - bo = B
    · omega
    · rw [Nat.mod_eq_of_lt (by omega)]; omega
  · rw [if_neg h, Nat.zero_mul, show x + B - p - bo = (x - p - bo) + B from by omega, Nat.add_mod_right, Nat.mod_eq_of_lt (by omega)]
    omega

/-- A shift to the left by s, word by word. -/
theorem shl {P L X c x t hi lo B q : Nat} (h : L + c * P = X * t) (h1 : x * t = hi * B + lo) (h2 : q = lo + c) : (L + P * q) + hi * (P * B) = (X + P * x) * t := by
  grind

theorem two_pow_split (s : Nat) (hs : s ≤ 64) : 18446744073709551616 = 2 ^ s * 2 ^ (64 - s) := by
  rw [← Nat.pow_add, show s + (64 - s) = 64 from by omega]

/-- The words of a shift to the left. -/
theorem shl_word (x s c : Nat) (hs : s ≤ 64) (hc : c < 2 ^ s) : (x * 2 ^ s % 18446744073709551616) ||| c = x * 2 ^ s % 18446744073709551616 + c ∧ x * 2 ^ s = x / 2 ^ (64 - s) * 18446744073709551616 + x * 2 ^ s % 18446744073709551616 := by
  have e := two_pow_split s hs
  have e1 : x * 2 ^ s % 18446744073709551616 = 2 ^ s * (x % 2 ^ (64 - s)) := by rw [e, Nat.mul_comm x, Nat.mul_mod_mul_left]
  constructor
  · rw [e1, Nat.two_pow_add_eq_or_of_lt hc]
  · rw [e1]
    have h := Nat.div_add_mod x (2 ^ (64 - s))
    calc x * 2 ^ s = (2 ^ (64 - s) * (x / 2 ^ (64 - s)) + x % 2 ^ (64 - s)) * 2 ^ s := by rw [h]
      _ = x / 2 ^ (64 - s) * (2 ^ s * 2 ^ (64 - s)) + 2 ^ s * (x % 2 ^ (64 - s)) := by grind
      _ = x / 2 ^ (64 - s) * 18446744073709551616 + 2 ^ s * (x % 2 ^ (64 - s)) := by rw [← e]

/-- The words of a shift to the right: c is what the word above has left behind. -/
theorem shr_word (x y s : Nat) (hs : s ≤ 64) (hx : x < 18446744073709551616) : (x / 2 ^ s) ||| (y * 2 ^ (64 - s) % 18446744073709551616) = (x + 18446744073709551616 * (y % 2 ^ s)) / 2 ^ s := by
  have e := two_pow_split s hs
  have e1 : y * 2 ^ (64 - s) % 18446744073709551616 = 2 ^ (64 - s) * (y % 2 ^ s) := by
    rw [e, Nat.mul_comm y, Nat.mul_comm (2 ^ s), Nat.mul_mod_mul_left]
  have h1 : x / 2 ^ s < 2 ^ (64 - s) := by
    rw [Nat.div_lt_iff_lt_mul (Nat.pow_pos (by omega)), Nat.mul_comm, ← e]; exact hx
  rw [e1, Nat.or_comm, ← Nat.two_pow_add_eq_or_of_lt h1]
  have e2 : 18446744073709551616 * (y % 2 ^ s) = 2 ^ s * (2 ^ (64 - s) * (y % 2 ^ s)) := by rw [← Nat.mul_assoc, ← e]
  rw [e2, Nat.add_mul_div_left _ _ (Nat.pow_pos (by omega))]
  omega

end Go.Proofs.YtbcckgofoknmbaaDoor.Step
/-
  THE MATHEMATICS OF NUMERALS: the number that the first k digits say, read in pieces of any size; no walk, no world.
-/
namespace Go.Proofs.YtbcckgofoknmbaaDoor.Read

/-- The number that digits i .. i+k-1 say. -/
def seg (d : Nat → Nat) (i : Nat) : Nat → Nat
  | 0 => 0
  | k + 1 => 10 * seg d i k + d (i + k)

theorem seg_lt (d : Nat → Nat) (i k : Nat) (h : ∀ j, i ≤ j → j < i + k → d j ≤ 9) : seg d i k < 10 ^ k := by
  induction k with
  | zero => simp [seg]
  | succ k ih =>
    have h1 := ih fun j hj hk => h j hj (by omega)
    have h2 := h (i + k) (by omega) (by omega)
    simp only [seg, Nat.pow_succ]
    omega

theorem seg_join (d : Nat → Nat) (i a b : Nat) : seg d i (a + b) = seg d i a * 10 ^ b + seg d (i + a) b := by
  induction b with
  | zero => simp [seg]
  | succ b ih =>
    rw [show a + (b + 1) = (a + b) + 1 from rfl]
    simp only [seg, Nat.pow_succ]
    rw [ih, ← Nat.add_assoc i a b, ← Nat.mul_assoc, Nat.mul_add]
    have : 10 * (seg d i a * 10 ^ b) = seg d i a * 10 ^ b * 10 := Nat.mul_comm _ _
    omega

/-- The number that the first k digits say. -/
def rd (d : Nat → Nat) (k : Nat) : Nat := seg d 0 k

theorem rd_join (d : Nat → Nat) (a b : Nat) : rd d (a + b) = rd d a * 10 ^ b + seg d a b := by
  unfold rd; rw [seg_join, Nat.zero_add]

theorem rd_lt (d : Nat → Nat) (k : Nat) (h : ∀ j, j < k → d j ≤ 9) : rd d k < 10 ^ k := seg_lt d 0 k fun j _ hj => h j (by omega)

theorem seg_congr (d e : Nat → Nat) (i k : Nat) (h : ∀ j, i ≤ j → j < i + k → d j = e j) : seg d i k = seg e i k := by
  induction k with
  | zero => rfl
  | succ k ih =>
    simp only [seg]
    rw [ih fun j hj hk => h j hj (by omega), h (i + k) (by omega) (by omega)]

theorem seg_zero (d : Nat → Nat) (i k : Nat) (h : ∀ j, i ≤ j → j < i + k → d j = 0) : seg d i k = 0 := by
  induction k with
  | zero => rfl
  | succ k ih =>
    simp only [seg]
    rw [ih fun j hj hk => h j hj (by omega), h (i + k) (by omega) (by omega)]

/-- The first digit carries the number. -/
theorem rd_ge (d : Nat → Nat) (k : Nat) : d 0 * 10 ^ k ≤ rd d (k + 1) := by
  have h := rd_join d 1 k
  rw [Nat.add_comm 1 k] at h
  have e : rd d 1 = d 0 := by simp [rd, seg]
  rw [h, e]
  exact Nat.le_add_right _ _

/-- A numeral that starts with no 0 says no 0. -/
theorem rd_pos (d : Nat → Nat) (k : Nat) (hk : 0 < k) (h0 : 1 ≤ d 0) : 10 ^ (k - 1) ≤ rd d k := by
  have h := rd_ge d (k - 1)
  rw [show k - 1 + 1 = k from by omega] at h
  exact Nat.le_trans (Nat.le_mul_of_pos_left _ h0) h

theorem pow_ge_ten (k : Nat) (hk : 2 ≤ k) : 10 ≤ 10 ^ (k - 1) := by
  obtain ⟨j, rfl⟩ : ∃ j, k = j + 2 := ⟨k - 2, by omega⟩
  rw [show j + 2 - 1 = j + 1 from by omega, Nat.pow_succ]
  have : 0 < 10 ^ j := Nat.pow_pos (by omega)
  omega

/-- A canonical numeral below 10 is one digit. -/
theorem rd_small (d : Nat → Nat) (k x : Nat) (hk : 0 < k) (hx : x < 10) (hc : 1 ≤ d 0 ∨ k = 1) : rd d k = x ↔ k = 1 ∧ d 0 = x := by
  by_cases h1 : k = 1
  · subst h1
    simp [rd, seg]
  · have h2 := rd_pos d k hk (by omega)
    have h3 := pow_ge_ten k (by omega)
    constructor
    · intro h; omega
    · rintro ⟨h, _⟩; omega

end Go.Proofs.YtbcckgofoknmbaaDoor.Read
/-
  More on lists of digits: one digit written anew, one digit read, the part from a place on. Plain mathematics, no program.
-/
namespace Go.Proofs.YtbcckgofoknmbaaDoor
namespace Num

theorem getD_below {b : Nat} {xs : List Nat} (hb : 0 < b) (h : Dig b xs) (k : Nat) : xs.getD k 0 < b := by
  rw [List.getD_eq_getElem?_getD]
  by_cases hk : k < xs.length
  · rw [List.getElem?_eq_getElem hk]; exact h _ (List.getElem_mem hk)
  · rw [List.getElem?_eq_none (by omega)]; exact hb

theorem Dig.put {b : Nat} {xs : List Nat} (h : Dig b xs) (k : Nat) {d : Nat} (hd : d < b) : Dig b (xs.set k d) := by
  intro x hx
  rcases List.mem_or_eq_of_mem_set hx with hx | rfl
  · exact h x hx
  · exact hd

theorem val_put (b : Nat) (xs : List Nat) (k d : Nat) (hk : k < xs.length) : val b (xs.set k d) + b ^ k * xs.getD k 0 = val b xs + b ^ k * d := by
  induction xs generalizing k with
  | nil => simp at hk
  | cons x xs ih =>
    cases k with
    | zero => simp [val]; omega
    | succ k =>
      have h := ih k (by simpa using hk)
      simp only [List.set_cons_succ, val, List.getD_cons_succ, Nat.pow_succ]
      have h2 : b * (val b (xs.set k d) + b ^ k * xs.getD k 0) = b * (val b xs + b ^ k * d) := by rw [h]
      simp only [Nat.mul_add] at h2
      rw [Nat.mul_comm (b ^ k) b, Nat.mul_assoc, Nat.mul_assoc]
      omega

theorem getD_val (b : Nat) (xs : List Nat) (hd : Dig b xs) (j : Nat) : xs.getD j 0 = val b xs / b ^ j % b := by
  induction xs generalizing j with
  | nil => simp [val]
  | cons x xs ih =>
    have hx : x < b := hd x (by simp)
    have hd' : Dig b xs := fun y hy => hd y (by simp [hy])
    cases j with
    | zero => simp [val, Nat.mod_eq_of_lt hx]
    | succ j =>
      have e : val b (x :: xs) / b ^ (j + 1) = val b xs / b ^ j := by
        rw [Nat.pow_succ, Nat.mul_comm, ← Nat.div_div_eq_div_mul]
        simp only [val]
        rw [Nat.add_mul_div_left _ _ (by omega : 0 < b), Nat.div_eq_of_lt hx, Nat.zero_add]
      rw [e, List.getD_cons_succ, ih hd']

theorem val_drop (b : Nat) (xs : List Nat) (hd : Dig b xs) (k : Nat) (hk : k ≤ xs.length) (hb : 0 < b) : val b (xs.drop k) = val b xs / b ^ k := by
  have h := val_split b xs k hk
  have h1 := val_lt b _ (hd.take k)
  rw [List.length_take, Nat.min_eq_left hk] at h1
  rw [h, Nat.add_mul_div_left _ _ (Nat.pow_pos hb), Nat.div_eq_of_lt h1, Nat.zero_add]

theorem val_take (b : Nat) (xs : List Nat) (hd : Dig b xs) (k : Nat) (hk : k ≤ xs.length) : val b (xs.take k) = val b xs % b ^ k := by
  have h := val_split b xs k hk
  have h1 := val_lt b _ (hd.take k)
  rw [List.length_take, Nat.min_eq_left hk] at h1
  rw [h, Nat.add_mul_mod_self_left, Nat.mod_eq_of_lt h1]

theorem Dig.append {b : Nat} {xs ys : List Nat} (h : Dig b xs) (k : Dig b ys) : Dig b (xs ++ ys) := by
  intro x hx
  rcases List.mem_append.1 hx with hx | hx
  · exact h x hx
  · exact k x hx

theorem dig_zeros (b n : Nat) (hb : 0 < b) : Dig b (List.replicate n 0) := fun x hx => by rw [List.eq_of_mem_replicate hx]; exact hb

/-- A number's digits, filled up with zeros. -/
def pad (b n x : Nat) : List Nat := digs b x ++ List.replicate (n - ln b x) 0
theorem pad_len (b n x : Nat) (h : ln b x ≤ n) : (pad b n x).length = n := by unfold pad; rw [List.length_append, length_digs, List.length_replicate]; omega
theorem pad_dig (b n x : Nat) (hb : 2 ≤ b) : Dig b (pad b n x) := (dig_digs b hb x).append (dig_zeros b _ (by omega))
theorem pad_val (b n x : Nat) (hb : 2 ≤ b) : val b (pad b n x) = x := by unfold pad; rw [val_append, val_digs b hb, val_replicate_zero]; simp
theorem pad_getD (b n x j : Nat) (hb : 2 ≤ b) : (pad b n x).getD j 0 = dg b x j := by rw [getD_val b _ (pad_dig b n x hb), pad_val b n x hb, dg_eq b hb]
theorem pad_self (b x : Nat) : pad b (ln b x) x = digs b x := by unfold pad; rw [Nat.sub_self]; simp

/-- Two lists of digits of one length and one value are the same. -/
theorem val_inj (b : Nat) (xs ys : List Nat) (hx : Dig b xs) (hy : Dig b ys) (hl : xs.length = ys.length) (h : val b xs = val b ys) : xs = ys := by
  apply List.ext_getElem hl
  intro i h1 h2
  have e1 := getD_val b xs hx i
  have e2 := getD_val b ys hy i
  rw [h, ← e2] at e1
  simpa [List.getD, h1, h2] using e1

end Num
end Go.Proofs.YtbcckgofoknmbaaDoor
/-
  The leading words of a divisor and of a window, for the step of long division. Plain mathematics, no program.
-/
namespace Go.Proofs.YtbcckgofoknmbaaDoor
namespace Num

theorem div_top (b x m : Nat) (hb : 2 ≤ b) (h : x < b ^ (m + 1)) : x / b ^ m = dg b x m := by
  rw [dg_eq b hb, Nat.mod_eq_of_lt]
  rw [Nat.div_lt_iff_lt_mul (Nat.pow_pos (by omega)), Nat.mul_comm, ← Nat.pow_succ]; exact h

theorem div_two (b x m : Nat) (hb : 2 ≤ b) (h : x < b ^ (m + 2)) : x / b ^ m = dg b x (m + 1) * b + dg b x m := by
  have h1 := div_top b x (m + 1) hb h
  rw [dg_eq b hb m, ← h1, Nat.pow_succ, ← Nat.div_div_eq_div_mul, Nat.mul_comm]
  exact (Nat.div_add_mod _ _).symm

theorem div_three (b x m : Nat) (hb : 2 ≤ b) (h : x < b ^ (m + 3)) : x / b ^ m = (dg b x (m + 2) * b + dg b x (m + 1)) * b + dg b x m := by
  have h1 := div_two b x (m + 1) hb h
  rw [dg_eq b hb m, ← h1, Nat.pow_succ, ← Nat.div_div_eq_div_mul, Nat.mul_comm]
  exact (Nat.div_add_mod _ _).symm

theorem part_le (b x m : Nat) : x / b ^ m * b ^ m ≤ x := Nat.div_mul_le_self _ _
theorem part_lt (b x m : Nat) (hb : 2 ≤ b) : x < (x / b ^ m + 1) * b ^ m := by
  have h := Nat.div_add_mod x (b ^ m)
  have h2 := Nat.mod_lt x (Nat.pow_pos (n := m) (show 0 < b by omega))
  rw [Nat.add_mul, Nat.one_mul, Nat.mul_comm]
  omega

/-- The first guess is never too small. -/
theorem guess_first {b W D m : Nat} (hb : 2 ≤ b) (hD : D < b ^ (m + 2)) (hW : W < b ^ (m + 3)) (ht : 0 < dg b D (m + 1)) (_hD0 : 0 < D) :
    W / D ≤ (dg b W (m + 2) * b + dg b W (m + 1)) / dg b D (m + 1) := by
  have e1 := div_top b D (m + 1) hb hD
  have e2 := div_two b W (m + 1) hb hW
  rw [← e1, ← e2]
  exact Knuth.first (by rw [e1]; exact ht) (part_le b D (m + 1)) (part_lt b W (m + 1) hb) (Nat.div_mul_le_self W D)

/-- A guess whose product with the divisor's second word passes what is left is too great. -/
theorem guess_less {b W D m g r : Nat} (hb : 2 ≤ b) (hD : D < b ^ (m + 2)) (hW : W < b ^ (m + 3)) (he : g * dg b D (m + 1) + r = dg b W (m + 2) * b + dg b W (m + 1)) (hx : r * b + dg b W m < g * dg b D m) : W / D < g := by
  have e1 := div_two b D m hb hD
  have e2 := div_three b W m hb hW
  refine Knuth.too_great (D := D / b ^ m) (W := W / b ^ m) (part_le b D m) (part_lt b W m hb) (Nat.div_mul_le_self W D) ?_
  rw [e1, e2, ← he, Nat.mul_add, Nat.add_mul, ← Nat.mul_assoc]
  omega

/-- .. likewise where its product with the whole divisor passes the window. -/
theorem guess_over {W D g t P V : Nat} (h : V + g * D = W + t * P) (hV : V < P) (ht : t ≠ 0) : W / D < g := by
  have h1 : P ≤ t * P := Nat.le_mul_of_pos_left _ (by omega)
  have h2 : W < g * D := by omega
  by_cases hD : D = 0
  · subst hD; omega
  · rw [Nat.div_lt_iff_lt_mul (by omega)]; exact h2

theorem guess_done {W D g V : Nat} (hD : 0 < D) (h : V + g * D = W) (hg : W / D ≤ g) : g = W / D ∧ V = W % D := by
  have h1 := Nat.div_add_mod W D
  have h2 := Nat.mod_lt W hD
  have e : g = W / D := by
    refine Knuth.done (w := W) (d := D) (by omega) ?_ hg
    rw [Nat.add_mul, Nat.one_mul, Nat.mul_comm]; omega
  refine ⟨e, ?_⟩
  rw [e, Nat.mul_comm] at h
  omega

end Num
end Go.Proofs.YtbcckgofoknmbaaDoor
/-
  Lehmer's steps over the natural numbers: the leading bits of two numbers, the steps' head, and what the steps come to. Plain mathematics, no program.
-/
namespace Go.Proofs.YtbcckgofoknmbaaDoor
namespace Num

/-- The leading bits: the word at the top shifted up, filled from the next one. -/
theorem lead_bits {a1 a0 s : Nat} (hs : s < 64) (_h1 : a1 * 2 ^ s < 18446744073709551616) (h0 : a0 < 18446744073709551616) :
    (a1 * 2 ^ s ||| a0 / 2 ^ (64 - s)) = (a1 * 18446744073709551616 + a0) / 2 ^ (64 - s) := by
  have e := Step.two_pow_split s (by omega)
  have hl : a0 / 2 ^ (64 - s) < 2 ^ s := by
    rw [Nat.div_lt_iff_lt_mul (Nat.pow_pos (by omega)), ← e]; exact h0
  rw [Nat.mul_comm, ← Nat.two_pow_add_eq_or_of_lt hl, Nat.mul_comm]
  have e2 : a1 * 18446744073709551616 = 2 ^ (64 - s) * (a1 * 2 ^ s) := by
    have : a1 * (2 ^ s * 2 ^ (64 - s)) = 2 ^ (64 - s) * (a1 * 2 ^ s) := by rw [← Nat.mul_assoc, Nat.mul_comm]
    rw [← this, ← e]
  rw [e2, Nat.mul_add_div (Nat.pow_pos (by omega))]

/-- The head of the loop over the leading bits. -/
def LehmAt (A B x0 y0 : Nat) (neg : Bool) (x y u0 v0 u1 v1 u v : Nat) : Prop :=
  Lehm.Inv (A : Int) B x0 y0 (if neg then 1 else -1) x y u0 v0 u1 v1 u v

/-- What the steps make of the two numbers. -/
def LehmOut (A B : Nat) (neg : Bool) (u0 v0 u1 v1 : Nat) : Prop :=
  ∃ A' B' : Nat, (if neg then A' + u0 * A = v0 * B ∧ B' + v1 * B = u1 * A else A' + v0 * B = u0 * A ∧ B' + u1 * A = v1 * B) ∧ B' < A' ∧ A' ≤ B ∧ Nat.gcd A' B' = Nat.gcd A B

theorem LehmAt.start (A B x0 y0 : Nat) (h1 : y0 ≤ x0) (h2 : 1 ≤ x0) : LehmAt A B x0 y0 true x0 y0 0 0 1 0 0 1 :=
  Lehm.start A B x0 y0 (by omega) (by omega) (by omega)

theorem LehmAt.facts {A B x0 y0 x y u0 v0 u1 v1 u v : Nat} {neg : Bool} (h : LehmAt A B x0 y0 neg x y u0 v0 u1 v1 u v) : y ≤ x ∧ 1 ≤ v ∧ v ≤ x0 ∧ u ≤ v ∧ (1 ≤ y → v1 + v ≤ x0) := by
  have h1 := h.yx
  have h2 := h.nv
  have h3 := h.v_le
  have h4 := h.le
  refine ⟨by omega, by omega, by omega, by omega, fun hy => ?_⟩
  have := h.sum_le (by omega)
  omega

theorem LehmAt.step {A B W x0 y0 x y u0 v0 u1 v1 u v : Nat} {neg : Bool} (hW : 0 < W) (hx0 : x0 = A / W) (hy0 : y0 = B / W) (h : LehmAt A B x0 y0 neg x y u0 v0 u1 v1 u v) (c1 : v ≤ y) (c2 : v1 + v ≤ x - y) :
    LehmAt A B x0 y0 (!neg) y (x % y) u1 v1 u v (u1 + x / y * u) (v1 + x / y * v) := by
  have hy := h.facts.1
  have key := Lehm.Inv.step (W := (W : Int)) (al := ((A % W : Nat) : Int)) (be := ((B % W : Nat) : Int)) h
    (by have := Nat.div_add_mod A W; rw [← hx0, Nat.mul_comm] at this; exact_mod_cast this.symm)
    (by have := Nat.div_add_mod B W; rw [← hy0, Nat.mul_comm] at this; exact_mod_cast this.symm)
    (by omega) (by have := Nat.mod_lt A hW; exact_mod_cast this) (by omega) (by have := Nat.mod_lt B hW; exact_mod_cast this)
    (by omega) (by omega)
  unfold LehmAt
  have e : (if (!neg) = true then (1 : Int) else -1) = -(if neg = true then (1 : Int) else -1) := by cases neg <;> rfl
  rw [e]
  simpa using key

theorem LehmAt.result {A B x0 y0 x y u0 v0 u1 v1 u v : Nat} {neg : Bool} (h : LehmAt A B x0 y0 neg x y u0 v0 u1 v1 u v) (h0 : v0 ≠ 0) : LehmOut A B neg u0 v0 u1 v1 := by
  have ho := Lehm.Inv.out h
  rcases ho with ho | ⟨o1, o2, o3, o4⟩
  · omega
  have hg := Lehm.gcd_kept (A := (A : Int)) (B := B) (u0 := u0) (v0 := v0) (u1 := u1) (v1 := v1) h.hs rfl rfl o4
  cases neg with
  | true =>
    simp only [if_true, Int.one_mul] at o1 o2 o3 hg
    have e1 : (u0 : Int) * A = ((u0 * A : Nat) : Int) := by simp
    have e2 : (v0 : Int) * B = ((v0 * B : Nat) : Int) := by simp
    have e3 : (u1 : Int) * A = ((u1 * A : Nat) : Int) := by simp
    have e4 : (v1 : Int) * B = ((v1 * B : Nat) : Int) := by simp
    rw [e1, e2, e3, e4] at o2 hg
    rw [e3, e4] at o1
    rw [e1, e2] at o3
    refine ⟨v0 * B - u0 * A, u1 * A - v1 * B, ?_, by omega, by omega, ?_⟩
    · simp only [if_true]; omega
    · rw [← Int.gcd_natCast_natCast A B, ← hg, ← Int.gcd_natCast_natCast]
      congr 1 <;> omega
  | false =>
    simp only [Bool.false_eq_true, if_false] at o1 o2 o3 hg
    have e1 : (u0 : Int) * A = ((u0 * A : Nat) : Int) := by simp
    have e2 : (v0 : Int) * B = ((v0 * B : Nat) : Int) := by simp
    have e3 : (u1 : Int) * A = ((u1 * A : Nat) : Int) := by simp
    have e4 : (v1 : Int) * B = ((v1 * B : Nat) : Int) := by simp
    rw [e1, e2, e3, e4] at o2 hg
    rw [e3, e4] at o1
    rw [e1, e2] at o3
    refine ⟨u0 * A - v0 * B, v1 * B - u1 * A, ?_, by omega, by omega, ?_⟩
    · simp only [Bool.false_eq_true, if_false]; omega
    · rw [← Int.gcd_natCast_natCast A B, ← hg, ← Int.gcd_natCast_natCast]
      congr 1 <;> omega

end Num
end Go.Proofs.YtbcckgofoknmbaaDoor
/-
  THE MATHEMATICS OF ONE HALF STEP OF THE LIBRARY's DIVISION OF TWO WORDS BY ONE: no walk, no world.
-/
namespace Go.Proofs.YtbcckgofoknmbaaDoor.Half

/-- The guess q with its rest r, for u*H + c divided by y = y1*H + y0. -/
structure Inv (H y1 y0 u c q r : Nat) : Prop where
  eq : q * y1 + r = u
  ge : (u * H + c) / (y1 * H + y0) ≤ q

theorem start {H y1 y0 u c : Nat} (h1 : 0 < y1) (hH : 0 < H) (hc : c < H) : Inv H y1 y0 u c (u / y1) (u - u / y1 * y1) := by
  have h2 := Nat.div_mul_le_self u y1
  refine ⟨by omega, ?_⟩
  have hy : 0 < y1 * H + y0 := Nat.add_pos_left (Nat.mul_pos h1 hH) _
  apply Nat.le_of_lt_succ
  rw [Nat.div_lt_iff_lt_mul hy]
  have h3 : u + 1 ≤ (u / y1 + 1) * y1 := by
    have := Nat.lt_div_mul_add h1 (a := u)
    rw [Nat.add_mul]; omega
  have h4 : (u + 1) * H ≤ (u / y1 + 1) * y1 * H := Nat.mul_le_mul_right _ h3
  have h5 : (u / y1 + 1) * y1 * H ≤ (u / y1 + 1) * (y1 * H + y0) := by
    rw [Nat.mul_assoc]; exact Nat.mul_le_mul_left _ (by omega)
  have h6 : (u + 1) * H = u * H + H := by rw [Nat.add_mul]; omega
  have : (u / y1).succ = u / y1 + 1 := rfl
  rw [this]
  omega

theorem prod {H y1 y0 u c q r : Nat} (h : Inv H y1 y0 u c q r) : q * (y1 * H + y0) + r * H = u * H + q * y0 := by
  have e : (q * y1 + r) * H = u * H := by rw [h.eq]
  have e1 : (q * y1 + r) * H = q * (y1 * H) + r * H := by rw [Nat.add_mul, Nat.mul_assoc]
  have e2 : q * (y1 * H + y0) = q * (y1 * H) + q * y0 := Nat.mul_add _ _ _
  omega

theorem less {H y1 y0 u c q r : Nat} (h : Inv H y1 y0 u c q r) (hy : 0 < y1 * H + y0) (hu : u < y1 * H + y0) (hc : c < H) (hx : H ≤ q ∨ H * r + c < q * y0) : Inv H y1 y0 u c (q - 1) (r + y1) ∧ 1 ≤ q := by
  have hlt : (u * H + c) / (y1 * H + y0) < q := by
    rw [Nat.div_lt_iff_lt_mul hy]
    obtain ⟨y, hy'⟩ : ∃ y, y = y1 * H + y0 := ⟨_, rfl⟩
    have hp := prod h
    rw [← hy'] at hp hu ⊢
    rcases hx with hx | hx
    · have h1 : H * y ≤ q * y := Nat.mul_le_mul_right _ hx
      have h2 : (u + 1) * H ≤ y * H := Nat.mul_le_mul_right _ hu
      have h3 : (u + 1) * H = u * H + H := by rw [Nat.add_mul, Nat.one_mul]
      have h4 : y * H = H * y := Nat.mul_comm _ _
      omega
    · have h4 : r * H = H * r := Nat.mul_comm _ _
      omega
  have hq1 : 1 ≤ q := Nat.lt_of_le_of_lt (Nat.zero_le _) hlt
  refine ⟨⟨?_, Nat.le_sub_one_of_lt hlt⟩, hq1⟩
  have e := h.eq
  clear hlt h
  obtain ⟨p, rfl⟩ : ∃ p, q = p + 1 := ⟨q - 1, by omega⟩
  rw [Nat.add_mul] at e
  simp only [Nat.add_sub_cancel]
  omega

theorem done {H y1 y0 u c q r : Nat} (h : Inv H y1 y0 u c q r) (hy : 0 < y1 * H + y0) (hx : q * y0 ≤ H * r + c) : (u * H + c) / (y1 * H + y0) = q := by
  refine Nat.le_antisymm h.ge ?_
  rw [Nat.le_div_iff_mul_le hy]
  have := prod h
  have h4 : r * H = H * r := Nat.mul_comm _ _
  omega

/-- Where the rest has left the half word, the guess is right. -/
theorem wide {H y0 c q r : Nat} (hy0 : y0 < H) (hq : q ≤ H) (hr : H ≤ r) : q * y0 ≤ H * r + c := by
  have h1 : q * y0 ≤ H * y0 := Nat.mul_le_mul_right _ hq
  have h2 : H * y0 ≤ H * r := Nat.mul_le_mul_left _ (by omega)
  omega

theorem q_le {H y1 y0 u q r : Nat} (hy0 : y0 < H) (hH : H ≤ 2 * y1) (hu : u < y1 * H + y0) (he : q * y1 + r = u) : q ≤ H + 1 := by
  apply Nat.le_of_not_lt
  intro hlt
  have h2 : (H + 2) * y1 ≤ q * y1 := Nat.mul_le_mul_right _ hlt
  have h3 : (H + 2) * y1 = y1 * H + 2 * y1 := by rw [Nat.add_mul, Nat.mul_comm]
  omega

/-- The two halves together: the quotient and the rest. -/
theorem both {H y u c1 c0 : Nat} (hy : 0 < y) :
    ((u * H + c1) / y) * H + (((u * H + c1) % y) * H + c0) / y = ((u * H + c1) * H + c0) / y ∧ (((u * H + c1) % y) * H + c0) % y = ((u * H + c1) * H + c0) % y := by
  have h := Nat.div_add_mod (u * H + c1) y
  obtain ⟨Q, hQ⟩ : ∃ Q, Q = (u * H + c1) / y := ⟨_, rfl⟩
  obtain ⟨R, hR⟩ : ∃ R, R = (u * H + c1) % y := ⟨_, rfl⟩
  rw [← hQ, ← hR] at h ⊢
  have e : (u * H + c1) * H + c0 = (R * H + c0) + y * (Q * H) := by
    rw [← h, Nat.add_mul, Nat.mul_assoc]; omega
  rw [e, Nat.add_mul_div_left _ _ hy, Nat.add_mul_mod_self_left]
  exact ⟨by omega, rfl⟩

/-- Scaled by a power: the quotient stays, the rest is scaled. -/
theorem scaled {x y p : Nat} (hp : 0 < p) : (x * p) / (y * p) = x / y ∧ (x * p) % (y * p) / p = x % y := by
  refine ⟨Nat.mul_div_mul_right _ _ hp, ?_⟩
  rw [Nat.mul_mod_mul_right, Nat.mul_div_cancel _ hp]

end Go.Proofs.YtbcckgofoknmbaaDoor.Half
/-
  Long division, one step of it in numbers: the row of what is left, and a window of it. Plain mathematics, no program.
-/
namespace Go.Proofs.YtbcckgofoknmbaaDoor
namespace Num

/-- What is left of X behind the digits from k on: the low digits, and the rest by D above them. -/
def left (b X D k : Nat) : Nat := X % b ^ k + b ^ k * (X / b ^ k % D)

theorem left_drop {b X D k : Nat} (hb : 2 ≤ b) : left b X D (k + 1) / b ^ k = X / b ^ (k + 1) % D * b + dg b X k := by
  unfold left
  have e : X % b ^ (k + 1) = X % b ^ k + b ^ k * dg b X k := mod_pow_succ b X k hb
  have h1 : X % b ^ k < b ^ k := Nat.mod_lt _ (Nat.pow_pos (by omega))
  rw [e, Nat.pow_succ]
  generalize X / (b ^ k * b) % D = R
  rw [show X % b ^ k + b ^ k * dg b X k + b ^ k * b * R = X % b ^ k + b ^ k * (R * b + dg b X k) from by rw [Nat.mul_add, Nat.mul_assoc, Nat.mul_comm b R]; omega]
  rw [Nat.add_mul_div_left _ _ (Nat.pow_pos (by omega)), Nat.div_eq_of_lt h1, Nat.zero_add]

theorem left_take {b X D k : Nat} (hb : 2 ≤ b) : left b X D (k + 1) % b ^ k = X % b ^ k := by
  unfold left
  have e : X % b ^ (k + 1) = X % b ^ k + b ^ k * dg b X k := mod_pow_succ b X k hb
  have h1 : X % b ^ k < b ^ k := Nat.mod_lt _ (Nat.pow_pos (by omega))
  rw [e, Nat.pow_succ]
  generalize X / (b ^ k * b) % D = R
  rw [show X % b ^ k + b ^ k * dg b X k + b ^ k * b * R = X % b ^ k + b ^ k * (R * b + dg b X k) from by rw [Nat.mul_add, Nat.mul_assoc, Nat.mul_comm b R]; omega]
  rw [Nat.add_mul_mod_self_left, Nat.mod_eq_of_lt h1]

/-- The row with its window written anew. -/
theorem left_patch {b X D q n : Nat} (hb : 2 ≤ b) (hD : 0 < D) (hDb : D < b ^ n) (rs ws : List Nat) (hrd : Dig b rs) (_hwd : Dig b ws) (hlen : q + (n + 1) ≤ rs.length) (hwl : ws.length = n + 1)
    (hr : val b rs = left b X D (q + 1)) (hw : val b ws = (X / b ^ (q + 1) % D * b + dg b X q) % D) : val b (rs.take q ++ ws ++ rs.drop (q + ws.length)) = left b X D q := by
  rw [List.append_assoc, val_append, val_append, val_take b rs hrd q (by omega), val_drop b rs hrd _ (by omega) (by omega), List.length_take, Nat.min_eq_left (by omega), hw, hr, left_take hb]
  have hT : X / b ^ (q + 1) % D * b + dg b X q < b ^ (n + 1) := by
    have h1 : X / b ^ (q + 1) % D < D := Nat.mod_lt _ hD
    have h2 := dg_lt b X q hb
    generalize X / b ^ (q + 1) % D = R at *
    generalize dg b X q = E at *
    have h3 : (R + 1) * b ≤ D * b := Nat.mul_le_mul_right _ h1
    have h4 : D * b ≤ b ^ n * b := Nat.mul_le_mul_right _ (Nat.le_of_lt hDb)
    rw [Nat.add_mul, Nat.one_mul] at h3
    rw [Nat.pow_succ]
    omega
  have hz : left b X D (q + 1) / b ^ (q + ws.length) = 0 := by
    rw [Nat.pow_add, ← Nat.div_div_eq_div_mul, left_drop hb, hwl]
    exact Nat.div_eq_of_lt hT
  rw [hz, Nat.mul_zero, Nat.add_zero]
  unfold left
  congr 2
  have e1 : X / b ^ q = b * (X / b ^ (q + 1)) + dg b X q := by
    rw [dg_eq b hb, Nat.pow_succ, ← Nat.div_div_eq_div_mul]
    exact (Nat.div_add_mod _ _).symm
  rw [e1, Nat.mul_comm b]
  rw [Nat.add_mod, Nat.mul_mod, Nat.mod_mod, ← Nat.mul_mod, ← Nat.add_mod]

theorem window_val {b X D q n : Nat} (hb : 2 ≤ b) (hD : 0 < D) (hDb : D < b ^ n) (rs : List Nat) (hrd : Dig b rs) (hlen : q + (n + 1) ≤ rs.length) (hr : val b rs = left b X D (q + 1)) :
    val b ((rs.drop q).take (n + 1)) = X / b ^ (q + 1) % D * b + dg b X q ∧ X / b ^ (q + 1) % D * b + dg b X q < b * D := by
  have h1 : X / b ^ (q + 1) % D < D := Nat.mod_lt _ hD
  have h2 := dg_lt b X q hb
  have e0 : val b ((rs.drop q).take (n + 1)) = (X / b ^ (q + 1) % D * b + dg b X q) % b ^ (n + 1) := by
    rw [val_take b _ (hrd.drop q) _ (by rw [List.length_drop]; omega), val_drop b rs hrd q (by omega) (by omega), hr, left_drop hb]
  rw [e0]
  clear e0
  generalize X / b ^ (q + 1) % D = R at *
  generalize dg b X q = E at *
  have h3 : (R + 1) * b ≤ D * b := Nat.mul_le_mul_right _ h1
  have h4 : D * b ≤ b ^ n * b := Nat.mul_le_mul_right _ (Nat.le_of_lt hDb)
  rw [Nat.add_mul, Nat.one_mul] at h3
  refine ⟨?_, by rw [Nat.mul_comm b]; omega⟩
  apply Nat.mod_eq_of_lt
  rw [Nat.pow_succ]
  omega

theorem start_small {x y s la n b k : Nat} (hx : x < b ^ la) (hy : b ^ (n - 1) ≤ y) (hn : 1 ≤ n) (hk : k = la + 1 - n) (hl : n ≤ la) (hb : 2 ≤ b) : x * 2 ^ s / b ^ k < y * 2 ^ s := by
  rw [Nat.div_lt_iff_lt_mul (Nat.pow_pos (by omega))]
  have e : b ^ la = b ^ (n - 1) * b ^ k := by rw [← Nat.pow_add]; congr 1; omega
  calc x * 2 ^ s < b ^ la * 2 ^ s := Nat.mul_lt_mul_of_pos_right hx (Nat.pow_pos (by omega))
    _ = b ^ (n - 1) * 2 ^ s * b ^ k := by rw [e, Nat.mul_right_comm]
    _ ≤ y * 2 ^ s * b ^ k := Nat.mul_le_mul_right _ (Nat.mul_le_mul_right _ hy)

end Num
end Go.Proofs.YtbcckgofoknmbaaDoor
