/-
  Several texts in one: Frac, FracM.
-/
import Derived.Test.YtbcckgofoknmbaaDoorPWord
import Derived.Deep.RegionWith
import Derived.Deep.DeepCutAuto
/-
  The program's fraction of two ints.
-/
namespace Go.Proofs.YtbcckgofoknmbaaDoor
open Go.RowKit Num

/-- The program's fraction: a sign and two natural numbers. -/
def IsF (w : World) (v : Value) (neg : Bool) (n d : Nat) : Prop :=
  ∃ vn vd, v = .agg #[.bool neg, vn, vd] ∧ Nums 64 .u64 WB w vn n ∧ Nums 64 .u64 WB w vd d

theorem box_drew {w w1 : World} {g : Nat} {t : TypeId} {cs : Array Value} (h : Box w g t cs) (hb : Below w.drew.heap.size w.drew w1) : Box w1 g t cs :=
  Box.below (w := w.drew) h hb h.lt

end Go.Proofs.YtbcckgofoknmbaaDoor
/-
  THE MATHEMATICS OF FRACTIONS IN LOWEST TERMS: sum, product and comparison. No walk, no world.
-/
namespace Go.Proofs.YtbcckgofoknmbaaDoor.Fracs

/-- A fraction in lowest terms that equals N/D is N/D reduced. -/
theorem unique {x y N D : Nat} (hc : Nat.gcd x y = 1) (hD : 0 < D) (h : x * D = N * y) : x = N / Nat.gcd N D ∧ y = D / Nat.gcd N D := by
  have hg : 0 < Nat.gcd N D := Nat.pos_of_ne_zero fun e => by have := (Nat.gcd_eq_zero_iff.1 e).2; omega
  have h1 : Nat.gcd N D * y = D := by
    rw [← Nat.gcd_mul_right, ← h, Nat.mul_comm D y, Nat.gcd_mul_right, hc, Nat.one_mul]
  have h2 : Nat.gcd N D * x = N := by
    rw [← Nat.gcd_mul_right, Nat.mul_comm D x, h, Nat.gcd_mul_left, hc, Nat.mul_one]
  exact ⟨(Nat.div_eq_of_eq_mul_right hg h2.symm).symm, (Nat.div_eq_of_eq_mul_right hg h1.symm).symm⟩

/-- The magnitude of a sum of two signed numbers: their sum or their difference. -/
def Combo (m x y : Nat) : Prop := m = x + y ∨ m + y = x ∨ m + x = y

theorem Combo.gcd {m x y p : Nat} (h : Combo m x y) (hp : p ∣ y) : Nat.gcd m p = Nat.gcd x p := by
  obtain ⟨k, rfl⟩ := hp
  rcases h with rfl | rfl | h
  · rw [Nat.gcd_add_mul_left_left]
  · rw [Nat.gcd_add_mul_left_left]
  · apply Nat.dvd_antisymm
    · apply Nat.dvd_gcd _ (Nat.gcd_dvd_right _ _)
      have h1 : Nat.gcd m p ∣ m + x := by rw [h]; exact Nat.dvd_mul_right_of_dvd (Nat.gcd_dvd_right _ _) _
      exact (Nat.dvd_add_right (Nat.gcd_dvd_left _ _)).1 h1
    · apply Nat.dvd_gcd _ (Nat.gcd_dvd_right _ _)
      have h1 : Nat.gcd x p ∣ m + x := by rw [h]; exact Nat.dvd_mul_right_of_dvd (Nat.gcd_dvd_right _ _) _
      exact (Nat.dvd_add_left (Nat.gcd_dvd_left _ _)).1 h1

theorem Combo.swap {m x y : Nat} (h : Combo m x y) : Combo m y x := by unfold Combo at *; omega
theorem Combo.scale {m x y : Nat} (h : Combo m x y) (k : Nat) : Combo (m * k) (x * k) (y * k) := by
  rcases h with rfl | rfl | rfl
  · exact .inl (Nat.add_mul _ _ _)
  · exact .inr (.inl (Nat.add_mul _ _ _).symm)
  · exact .inr (.inr (Nat.add_mul _ _ _).symm)

theorem gcd_mul_one {m p q : Nat} (h1 : Nat.gcd m p = 1) (h2 : Nat.gcd m q = 1) : Nat.gcd m (p * q) = 1 := Nat.Coprime.mul_right h1 h2
theorem gcd_of_dvd_left {m m' p : Nat} (h : Nat.gcd m p = 1) (hd : m' ∣ m) : Nat.gcd m' p = 1 := Nat.Coprime.coprime_dvd_left hd h
theorem gcd_of_dvd_right {m p p' : Nat} (h : Nat.gcd m p = 1) (hd : p' ∣ p) : Nat.gcd m p' = 1 := Nat.Coprime.coprime_dvd_right hd h

/-- THE SUM: num over the least common denominator, reduced by its common divisor with the denominators' common divisor g alone, is in lowest terms. -/
theorem sum {a b c d num : Nat} (hb : 0 < b) (hd : 0 < d) (hab : Nat.gcd a b = 1) (hcd : Nat.gcd c d = 1) (hn : Combo num (a * (d / Nat.gcd b d)) (c * (b / Nat.gcd b d))) :
    ∃ N, Combo N (a * d) (c * b) ∧ N = num * Nat.gcd b d ∧
      num / Nat.gcd num (Nat.gcd b d) = N / Nat.gcd N (b * d) ∧ b / Nat.gcd b d * (d / Nat.gcd num (Nat.gcd b d)) = b * d / Nat.gcd N (b * d) := by
  obtain ⟨g, hg⟩ : ∃ g, g = Nat.gcd b d := ⟨_, rfl⟩
  have hg0 : 0 < g := by rw [hg]; exact Nat.gcd_pos_of_pos_left _ hb
  obtain ⟨b', hb'⟩ : ∃ b', b = g * b' := by rw [hg]; exact Nat.gcd_dvd_left b d
  obtain ⟨d', hd'⟩ : ∃ d', d = g * d' := by rw [hg]; exact Nat.gcd_dvd_right b d
  have eb : b / g = b' := by rw [hb', Nat.mul_div_cancel_left _ hg0]
  have ed : d / g = d' := by rw [hd', Nat.mul_div_cancel_left _ hg0]
  have hbd : Nat.gcd b' d' = 1 := by
    have h1 : Nat.gcd b d = g * Nat.gcd b' d' := by rw [hb', hd', Nat.gcd_mul_left]
    rw [← hg] at h1
    have h2 : g * 1 = g * Nat.gcd b' d' := by omega
    exact (Nat.eq_of_mul_eq_mul_left hg0 h2).symm
  rw [← hg] at hn ⊢
  rw [eb, ed] at hn
  rw [eb]
  refine ⟨num * g, ?_, rfl, ?_⟩
  · have := hn.scale g
    rwa [Nat.mul_assoc, Nat.mul_comm d' g, ← hd', Nat.mul_assoc, Nat.mul_comm b' g, ← hb'] at this
  obtain ⟨h, hh⟩ : ∃ h, h = Nat.gcd num g := ⟨_, rfl⟩
  have hh0 : 0 < h := by rw [hh]; exact Nat.gcd_pos_of_pos_right _ hg0
  obtain ⟨m, hm⟩ : ∃ m, num = h * m := by rw [hh]; exact Nat.gcd_dvd_left num g
  obtain ⟨e, he⟩ : ∃ e, g = h * e := by rw [hh]; exact Nat.gcd_dvd_right num g
  have hme : Nat.gcd m e = 1 := by
    have h1 : Nat.gcd num g = h * Nat.gcd m e := by
      have : Nat.gcd num g = Nat.gcd (h * m) (h * e) := by rw [← hm, ← he]
      rw [this, Nat.gcd_mul_left]
    rw [← hh] at h1
    have h2 : h * 1 = h * Nat.gcd m e := by omega
    exact (Nat.eq_of_mul_eq_mul_left hh0 h2).symm
  have e1 : num / h = m := by rw [hm, Nat.mul_div_cancel_left _ hh0]
  have e2 : d / h = e * d' := by rw [hd', he, Nat.mul_assoc, Nat.mul_div_cancel_left _ hh0]
  rw [← hh, e1, e2]
  have hmn : m ∣ num := ⟨h, by rw [hm, Nat.mul_comm]⟩
  have n1 : Nat.gcd num b' = 1 := by
    rw [hn.gcd (Nat.dvd_mul_left _ _)]
    have h1 : Nat.gcd b' a = 1 := by rw [Nat.gcd_comm]; exact gcd_of_dvd_right hab ⟨g, by rw [hb', Nat.mul_comm]⟩
    rw [Nat.gcd_comm]; exact gcd_mul_one h1 hbd
  have n2 : Nat.gcd num d' = 1 := by
    rw [hn.swap.gcd (Nat.dvd_mul_left _ _)]
    have h1 : Nat.gcd d' c = 1 := by rw [Nat.gcd_comm]; exact gcd_of_dvd_right hcd ⟨g, by rw [hd', Nat.mul_comm]⟩
    rw [Nat.gcd_comm]; exact gcd_mul_one h1 (by rw [Nat.gcd_comm]; exact hbd)
  have hc : Nat.gcd m (b' * (e * d')) = 1 :=
    gcd_mul_one (gcd_of_dvd_left n1 hmn) (gcd_mul_one hme (gcd_of_dvd_left n2 hmn))
  refine unique hc (Nat.mul_pos hb hd) ?_
  rw [hm]
  have : b * d = (h * e) * b' * ((h * e) * d') := by rw [← he, ← hb', ← hd']
  rw [this, he]
  grind

/-- THE PRODUCT: reduced crosswise it is in lowest terms. -/
theorem product {a b c d : Nat} (hb : 0 < b) (hd : 0 < d) (hab : Nat.gcd a b = 1) (hcd : Nat.gcd c d = 1) :
    a / Nat.gcd a d * (c / Nat.gcd c b) = a * c / Nat.gcd (a * c) (b * d) ∧ b / Nat.gcd c b * (d / Nat.gcd a d) = b * d / Nat.gcd (a * c) (b * d) := by
  obtain ⟨g, hg⟩ : ∃ g, g = Nat.gcd a d := ⟨_, rfl⟩
  obtain ⟨h, hh⟩ : ∃ h, h = Nat.gcd c b := ⟨_, rfl⟩
  have hg0 : 0 < g := by rw [hg]; exact Nat.gcd_pos_of_pos_right _ hd
  have hh0 : 0 < h := by rw [hh]; exact Nat.gcd_pos_of_pos_right _ hb
  obtain ⟨a', ha'⟩ : ∃ a', a = g * a' := by rw [hg]; exact Nat.gcd_dvd_left a d
  obtain ⟨d', hd'⟩ : ∃ d', d = g * d' := by rw [hg]; exact Nat.gcd_dvd_right a d
  obtain ⟨c', hc'⟩ : ∃ c', c = h * c' := by rw [hh]; exact Nat.gcd_dvd_left c b
  obtain ⟨b', hb'⟩ : ∃ b', b = h * b' := by rw [hh]; exact Nat.gcd_dvd_right c b
  have had : Nat.gcd a' d' = 1 := by
    have h1 : Nat.gcd a d = g * Nat.gcd a' d' := by rw [ha', hd', Nat.gcd_mul_left]
    rw [← hg] at h1
    have h2 : g * 1 = g * Nat.gcd a' d' := by omega
    exact (Nat.eq_of_mul_eq_mul_left hg0 h2).symm
  have hcb : Nat.gcd c' b' = 1 := by
    have h1 : Nat.gcd c b = h * Nat.gcd c' b' := by rw [hc', hb', Nat.gcd_mul_left]
    rw [← hh] at h1
    have h2 : h * 1 = h * Nat.gcd c' b' := by omega
    exact (Nat.eq_of_mul_eq_mul_left hh0 h2).symm
  rw [← hg, ← hh]
  have e1 : a / g = a' := by rw [ha', Nat.mul_div_cancel_left _ hg0]
  have e2 : d / g = d' := by rw [hd', Nat.mul_div_cancel_left _ hg0]
  have e3 : c / h = c' := by rw [hc', Nat.mul_div_cancel_left _ hh0]
  have e4 : b / h = b' := by rw [hb', Nat.mul_div_cancel_left _ hh0]
  rw [e1, e2, e3, e4]
  have hab' : Nat.gcd a' b' = 1 := gcd_of_dvd_left (gcd_of_dvd_right hab ⟨h, by rw [hb', Nat.mul_comm]⟩) ⟨g, by rw [ha', Nat.mul_comm]⟩
  have hcd' : Nat.gcd c' d' = 1 := gcd_of_dvd_left (gcd_of_dvd_right hcd ⟨g, by rw [hd', Nat.mul_comm]⟩) ⟨h, by rw [hc', Nat.mul_comm]⟩
  have k1 : Nat.gcd a' (b' * d') = 1 := gcd_mul_one hab' had
  have k2 : Nat.gcd c' (b' * d') = 1 := gcd_mul_one hcb hcd'
  have hc : Nat.gcd (a' * c') (b' * d') = 1 := by
    rw [Nat.gcd_comm]; exact gcd_mul_one (by rw [Nat.gcd_comm]; exact k1) (by rw [Nat.gcd_comm]; exact k2)
  refine unique hc (Nat.mul_pos hb hd) ?_
  have s1 : b * d = (h * b') * (g * d') := by rw [← hb', ← hd']
  have s2 : a * c = (g * a') * (h * c') := by rw [← ha', ← hc']
  rw [s1, s2]
  grind

end Go.Proofs.YtbcckgofoknmbaaDoor.Fracs
