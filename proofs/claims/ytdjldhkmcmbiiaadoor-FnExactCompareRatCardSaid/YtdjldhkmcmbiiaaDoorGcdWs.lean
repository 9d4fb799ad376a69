/-
  Several texts in one: Tz, GcdW.
-/
import Derived.Test.YtdjldhkmcmbiiaaDoorHold
import Derived.Laws.Bits64b
import Derived.Lib.TrailingZeros
import Derived.Shelf.Spec.TrailingZeros
/-
  math/bits.TrailingZeros64 at this program's numbers, over the table as its initialiser lays it.
-/
namespace Go.Proofs.YtdjldhkmcmbiiaaDoor
open Go.RowKit Num

/-- The table of math/bits.TrailingZeros64 stands in its variable. -/
def Tab64 (w : World) : Prop := ∀ j, j < Lib.deBruijn64tab.length → w.cell? ⟨1, j, none⟩ = some (.int .u8 (Lib.deBruijn64tab.getD j 0))

theorem Tab64.below {w w' : World} (h : Tab64 w) (hb : Below w.heap.size w w') : Tab64 w' := fun j hj => by
  have h1 := h j hj
  rw [hb.cell (p := ⟨1, j, none⟩) (World.block_lt_of_cell? w _ h1)]
  exact h1

set_option maxHeartbeats 1000000 in
theorem tz64_core (x k idx : Nat) (w : World) (hx0 : ((x : Int) == 0) = false)
    (key : IntKind.u64.wrap (bits BinOp.and IntKind.u64 (x : Int) (IntKind.u64.wrap (-(x : Int))) * 285870213051353865) / 288230376151711744 = (idx : Int))
    (hi : idx < 64) (hk : k < 64) (hcell : w.cell? ⟨1, idx, none⟩ = some (.int .u8 k)) :
    Calls Tryd.prog 122 #[.int .u64 x] w fun e w' => e = .returned (.int .i64 k) ∧ w = w' := by
  go_enter Tryd.func122, Tryd.ntmps122
  go_wp2_with (simp only [key])
  go_ret
  exact ⟨rfl, rfl⟩

/-- Where x is not 0. -/
theorem tz64 (x : Nat) (hx : x < 18446744073709551616) (h0 : x ≠ 0) (w : World) (hT : Tab64 w) :
    Calls Tryd.prog 122 #[.int .u64 x] w fun e w' => e = .returned (.int .i64 (Lib.ctz 64 x)) ∧ w = w' := by
  obtain ⟨hlow, hk⟩ := Lib.lowest_bit 64 x h0 hx
  obtain ⟨hi, htab⟩ := Lib.deBruijn64_at _ hk
  have hcell := hT _ hi
  rw [htab] at hcell
  exact tz64_core x _ _ w (by simp; omega) (tz64_key x _ hx h0 hlow) hi hk hcell

end Go.Proofs.YtdjldhkmcmbiiaaDoor
/-
  The program's greatest common divisor of two words.
-/
namespace Go.Proofs.YtdjldhkmcmbiiaaDoor
open Go.RowKit Num

theorem ctz_spec (x : Nat) (h0 : x ≠ 0) (h : x < 18446744073709551616) : ∃ m, x = 2 ^ Lib.ctz 64 x * (2 * m + 1) ∧ Lib.ctz 64 x < 64 := by
  obtain ⟨m, h1, h2⟩ := Lib.ctzFrom_spec 64 x (by omega) h
  have e : Lib.ctz 64 x = Lib.ctzFrom 64 x := by simp [Lib.ctz, h0]
  rw [e]
  exact ⟨m, h1, h2⟩

theorem coprime_two_pow (k u : Nat) (h : u % 2 = 1) : (2 ^ k).Coprime u := by
  apply Nat.Coprime.pow_left
  show Nat.gcd 2 u = 1
  rw [Nat.gcd_rec, h]
  rfl

theorem gcd_odd (u k m : Nat) (h : u % 2 = 1) : Nat.gcd u (2 ^ k * m) = Nat.gcd u m := Nat.Coprime.gcd_mul_left_cancel_right m (coprime_two_pow k u h)

theorem gcd_two_pow (i j u v : Nat) (hu : u % 2 = 1) (hv : v % 2 = 1) : Nat.gcd (2 ^ i * u) (2 ^ j * v) = 2 ^ min i j * Nat.gcd u v := by
  rcases Nat.le_total i j with h | h
  · rw [Nat.min_eq_left h, show j = i + (j - i) from by omega, Nat.pow_add, Nat.mul_assoc, Nat.gcd_mul_left, gcd_odd u (j - i) v hu]
  · rw [Nat.min_eq_right h, show i = j + (i - j) from by omega, Nat.pow_add, Nat.mul_assoc, Nat.gcd_mul_left, Nat.gcd_comm, gcd_odd v (i - j) u hv, Nat.gcd_comm]

theorem ctz_unique (k l p z : Nat) (h : z = 2 ^ k * (2 * p + 1)) (h0 : z % 2 ^ l = 0) (h1 : z / 2 ^ l % 2 = 1) : k = l := by
  rcases Nat.lt_trichotomy k l with hlt | heq | hgt
  · exfalso
    obtain ⟨c, hc⟩ := Nat.dvd_of_mod_eq_zero h0
    have e : 2 ^ k * (2 * p + 1) = 2 ^ k * (2 * (2 ^ (l - k - 1) * c)) := by
      rw [← h, hc]
      have : (2 : Nat) ^ l = 2 ^ k * (2 * 2 ^ (l - k - 1)) := by rw [← Nat.pow_succ', ← Nat.pow_add]; congr 1; omega
      rw [this, Nat.mul_assoc, Nat.mul_assoc]
    have := Nat.eq_of_mul_eq_mul_left (Nat.pow_pos (by omega)) e
    omega
  · exact heq
  · exfalso
    have e : z / 2 ^ l = 2 * (2 ^ (k - l - 1) * (2 * p + 1)) := by
      rw [h, show (2 : Nat) ^ k = 2 ^ l * (2 * 2 ^ (k - l - 1)) from by rw [← Nat.pow_succ', ← Nat.pow_add]; congr 1; omega, Nat.mul_assoc, Nat.mul_div_cancel_left _ (Nat.pow_pos (by omega)), Nat.mul_assoc]
    rw [e] at h1
    omega

theorem pow_mod_low (i l m : Nat) (h : l ≤ i) : 2 ^ i * (2 * m + 1) % 2 ^ l = 0 := by
  rw [show (2 : Nat) ^ i = 2 ^ l * 2 ^ (i - l) from by rw [← Nat.pow_add]; congr 1; omega, Nat.mul_assoc, Nat.mul_mod_right]

theorem ctz_or (a b : Nat) (ha0 : a ≠ 0) (hb0 : b ≠ 0) (ha : a < 18446744073709551616) (hb : b < 18446744073709551616) : Lib.ctz 64 (a ||| b) = min (Lib.ctz 64 a) (Lib.ctz 64 b) := by
  obtain ⟨m, hm, _⟩ := ctz_spec a ha0 ha
  obtain ⟨n, hn, _⟩ := ctz_spec b hb0 hb
  have hz : a ||| b < 18446744073709551616 := Nat.or_lt_two_pow (n := 64) ha hb
  have hz0 : a ||| b ≠ 0 := by
    intro e
    exact ha0 (Nat.or_eq_zero_iff.1 e).1
  obtain ⟨p, hp, _⟩ := ctz_spec _ hz0 hz
  refine ctz_unique _ _ p _ hp ?_ ?_
  · rw [Nat.or_mod_two_pow, hm, hn, pow_mod_low _ _ _ (by rw [← hm, ← hn]; exact Nat.min_le_left _ _), pow_mod_low _ _ _ (by rw [← hm, ← hn]; exact Nat.min_le_right _ _)]
    rfl
  · rw [Nat.or_div_two_pow, Nat.or_mod_two_eq_one]
    rcases Nat.le_total (Lib.ctz 64 a) (Lib.ctz 64 b) with h | h
    · left
      rw [Nat.min_eq_left h]
      generalize Lib.ctz 64 a = i at *
      rw [hm, Nat.mul_div_cancel_left _ (Nat.pow_pos (by omega))]
      omega
    · right
      rw [Nat.min_eq_right h]
      generalize Lib.ctz 64 b = j at *
      rw [hn, Nat.mul_div_cancel_left _ (Nat.pow_pos (by omega))]
      omega

theorem gcd_step (p q : Nat) : Nat.gcd (min p q) (max p q - min p q) = Nat.gcd p q := by
  rcases Nat.le_total p q with h | h
  · rw [Nat.min_eq_left h, Nat.max_eq_right h, Nat.gcd_sub_self_right h]
  · rw [Nat.min_eq_right h, Nat.max_eq_left h, Nat.gcd_sub_self_right h, Nat.gcd_comm]

set_option maxHeartbeats 1000000 in
theorem gcdW_zero (a b : Nat) (ha : a < 18446744073709551616) (hb : b < 18446744073709551616) (w : World) (h : a = 0 ∨ b = 0) :
    Calls Tryd.prog 86 #[.int .u64 a, .int .u64 b] w fun e w' => e = .returned (.int .u64 (Nat.gcd a b : Nat)) ∧ w = w' := by
  by_cases ha0 : a = 0
  · subst ha0
    have hor : bits BinOp.or IntKind.u64 0 (b : Int) = (b : Int) := by have := bits_or_u64_nat 0 b (by omega) hb; simpa using this
    clear h ha
    go_enter Tryd.func86, Tryd.ntmps86
    go_wp2_with fail
    go_ret
    exact ⟨ret_int (a := (b : Int)) (by simp), rfl⟩
  · obtain rfl : b = 0 := by omega
    have hor : bits BinOp.or IntKind.u64 (a : Int) 0 = (a : Int) := by have := bits_or_u64_nat a 0 ha (by omega); simpa using this
    have ea : ((a : Int) == 0) = false := by simp; omega
    clear h hb ha0
    go_enter Tryd.func86, Tryd.ntmps86
    go_wp2_with fail
    go_ret
    exact ⟨ret_int (a := (a : Int)) (by simp), rfl⟩

set_option maxHeartbeats 1000000 in
theorem gcdW_pos (a b : Nat) (ha : a < 18446744073709551616) (hb : b < 18446744073709551616) (ha0 : a ≠ 0) (hb0 : b ≠ 0) (w : World) (hT : Tab64 w) :
    Calls Tryd.prog 86 #[.int .u64 a, .int .u64 b] w fun e w' => e = .returned (.int .u64 (Nat.gcd a b : Nat)) ∧ w = w' := by
  have ea : ((a : Int) == 0) = false := by simp; omega
  have eb : ((b : Int) == 0) = false := by simp; omega
  obtain ⟨z, hz⟩ : ∃ z, z = a ||| b := ⟨_, rfl⟩
  have hz64 : z < 18446744073709551616 := by rw [hz]; exact Nat.or_lt_two_pow (n := 64) ha hb
  have hz0 : z ≠ 0 := by rw [hz]; exact fun e => ha0 (Nat.or_eq_zero_iff.1 e).1
  have hor : bits BinOp.or IntKind.u64 (a : Int) (b : Int) = (z : Int) := by rw [hz]; exact bits_or_u64_nat a b ha hb
  obtain ⟨m, hm, hi⟩ := ctz_spec a ha0 ha
  obtain ⟨n, hn, hj⟩ := ctz_spec b hb0 hb
  have hmin : Lib.ctz 64 z = min (Lib.ctz 64 a) (Lib.ctz 64 b) := by rw [hz]; exact ctz_or a b ha0 hb0 ha hb
  obtain ⟨i, hie⟩ : ∃ i, i = Lib.ctz 64 a := ⟨_, rfl⟩
  obtain ⟨s, hse⟩ : ∃ s, s = Lib.ctz 64 z := ⟨_, rfl⟩
  have c1 : ∀ W, Tab64 W → Calls Tryd.prog 122 #[.int .u64 z] W fun e w' => e = .returned (.int .i64 s) ∧ W = w' := by rw [hse]; exact fun W => tz64 z hz64 hz0 W
  have c2 : ∀ W, Tab64 W → Calls Tryd.prog 122 #[.int .u64 a] W fun e w' => e = .returned (.int .i64 i) ∧ W = w' := by rw [hie]; exact fun W => tz64 a ha ha0 W
  have C1 := Lib.hid c1; clear c1
  have C2 := Lib.hid c2; clear c2
  rw [← hie] at hm hi hmin
  rw [← hse] at hmin
  have Hm := Lib.hid hm; clear hm
  have Hn := Lib.hid hn; clear hn
  have Hmin := Lib.hid hmin; clear hmin
  have Hz := Lib.hid hz; clear hz
  clear hie hse
  have HT := Lib.hid hT; clear hT
  set_option maxRecDepth 100000 in
  go_enter Tryd.func86, Tryd.ntmps86
  go_wp2_with (go_at_call 122; first | ((with_reducible refine (C1.out _ HT.out).mono ?_); rintro e w' ⟨rfl, rfl⟩) | ((with_reducible refine (C2.out _ HT.out).mono ?_); rintro e w' ⟨rfl, rfl⟩))
  go_loop [0, 1] (fun x y => ∃ p q : Nat, x = .int .u64 p ∧ y = .int .u64 q ∧ p % 2 = 1 ∧ p < 18446744073709551616 ∧ q < 18446744073709551616 ∧ Nat.gcd p q = Nat.gcd (2 * m + 1) b) (fun x y => (intOf x).toNat + (intOf y).toNat)
  case atStart =>
    have e : a / 2 ^ i = 2 * m + 1 := by
      have := Hm.out
      rw [this, Nat.mul_div_cancel_left _ (Nat.pow_pos (by omega))]
    exact ⟨a / 2 ^ i, b, by congr 1, rfl, by rw [e]; omega, Nat.lt_of_le_of_lt (Nat.div_le_self _ _) ha, hb, by rw [e]⟩
  case round =>
    obtain ⟨p, q, rfl, rfl, hp, hp64, hq64, hg⟩ := hrel
    have Hg := Lib.hid hg; clear hg
    by_cases hq0 : q = 0
    · subst hq0
      go_wp2_with fail
      go_ret
      refine ⟨ret_int (a := IntKind.u64.wrap ((p : Int) * 2 ^ min s 64)) ?_, rfl⟩
      have hgp : p = Nat.gcd (2 * m + 1) (2 * n + 1) := by
        have e := Hg.out
        have e2 := Hn.out
        rw [Nat.gcd_zero_right, e2, gcd_odd _ _ _ (by omega)] at e
        exact e
      have hgab : Nat.gcd a b = 2 ^ s * p := by
        have e1 := Hm.out
        have e2 := Hn.out
        have e3 := Hmin.out
        calc Nat.gcd a b = Nat.gcd (2 ^ i * (2 * m + 1)) (2 ^ Lib.ctz 64 b * (2 * n + 1)) := by rw [← e1, ← e2]
          _ = 2 ^ s * p := by rw [gcd_two_pow _ _ _ _ (by omega) (by omega), ← e3, ← hgp]
      have hle : Nat.gcd a b ≤ a := Nat.le_of_dvd (by omega) (Nat.gcd_dvd_left a b)
      have hs : min s 64 = s := by have := Hmin.out; omega
      rw [hs, IntKind.wrap_u64, hgab, Nat.mul_comm]
      rw [hgab, Nat.mul_comm] at hle
      have e : ((p * 2 ^ s : Nat) : Int) = (p : Int) * 2 ^ s := by simp
      rw [← e]
      omega
    · obtain ⟨n', hn', ht⟩ := ctz_spec q hq0 hq64
      have C3 := Lib.hid (tz64 q hq64 hq0 w HT.out)
      obtain ⟨t, hte⟩ : ∃ t, t = Lib.ctz 64 q := ⟨_, rfl⟩
      rw [← hte] at hn' ht C3
      clear hte
      obtain ⟨r, hre⟩ : ∃ r, r = 2 * n' + 1 := ⟨_, rfl⟩
      rw [← hre] at hn'
      have hr : (q : Int) / 2 ^ t = (r : Int) := by
        have : q / 2 ^ t = r := by rw [hn', Nat.mul_div_cancel_left _ (Nat.pow_pos (by omega))]
        rw [← this]; simp
      have hrq : r ≤ q := by rw [hn']; exact Nat.le_mul_of_pos_left _ (Nat.pow_pos (by omega))
      have hr1 : r % 2 = 1 := by omega
      have hr64 : r < 18446744073709551616 := by omega
      have Hn' := Lib.hid hn'; clear hn'
      have Hre := Lib.hid hre; clear hre
      have hqb : ((q : Int) != 0) = true := by rw [bne_iff_ne]; omega
      have hgq : Nat.gcd p q = Nat.gcd p r := by
        have := Hn'.out
        rw [this, gcd_odd p t r hp]
      have Hgq := Lib.hid hgq; clear hgq
      rcases Nat.lt_trichotomy r p with hlt | heq | hgt
      · go_wp2_with (go_at_call 122; (with_reducible refine C3.out.mono ?_); rintro e w' ⟨rfl, rfl⟩)
        go_round
        case rel => exact ⟨r, p - r, by go_num, by go_num, by omega, by omega, by omega, by rw [← Hg.out, Hgq.out, Nat.gcd_sub_self_right (by omega), Nat.gcd_comm]⟩
        case measure => simp only [intOf]; omega
      · subst heq
        go_wp2_with (go_at_call 122; (with_reducible refine C3.out.mono ?_); rintro e w' ⟨rfl, rfl⟩)
        go_round
        case rel => exact ⟨r, 0, by go_num, by go_num, by omega, by omega, by omega, by rw [← Hg.out, Hgq.out, Nat.gcd_self, Nat.gcd_zero_right]⟩
        case measure => simp only [intOf]; omega
      · go_wp2_with (go_at_call 122; (with_reducible refine C3.out.mono ?_); rintro e w' ⟨rfl, rfl⟩)
        go_round
        case rel => exact ⟨p, r - p, by go_num, by go_num, by omega, by omega, by omega, by rw [← Hg.out, Hgq.out, Nat.gcd_sub_self_right (by omega)]⟩
        case measure => simp only [intOf]; omega

/-- The program's greatest common divisor of two words. -/
theorem gcdW_any (a b : Nat) (ha : a < 18446744073709551616) (hb : b < 18446744073709551616) (w : World) (hT : Tab64 w) :
    Calls Tryd.prog 86 #[.int .u64 a, .int .u64 b] w fun e w' => e = .returned (.int .u64 (Nat.gcd a b : Nat)) ∧ w = w' := by
  by_cases h : a = 0 ∨ b = 0
  · exact gcdW_zero a b ha hb w h
  · exact gcdW_pos a b ha hb (by omega) (by omega) w hT

end Go.Proofs.YtdjldhkmcmbiiaaDoor
