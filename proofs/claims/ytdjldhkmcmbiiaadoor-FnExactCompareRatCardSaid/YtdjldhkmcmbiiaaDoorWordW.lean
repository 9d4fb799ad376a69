/-
  Several texts in one: MulAdd, SubW, PadW, Lz.
-/
import Derived.Test.YtdjldhkmcmbiiaaDoorTrimW
import Derived.Test.YtdjldhkmcmbiiaaDoorShelf
import Derived.Laws.Externs
import Derived.Shelf.Spec.BitsCarry
/-
  The program's product of two words, plus a third; the library's sum and difference of words with a carry.
-/
namespace Go.Proofs.YtdjldhkmcmbiiaaDoor
open Go.RowKit Num

theorem Tryd.add64_run (x y c : Nat) (hc : c ≤ 1) (w : World) :
    (callFunc 107 #[.int .u64 x, .int .u64 y, .int .u64 c]).run Tryd.prog w = .ok (.value (.tuple #[.int .u64 ((x + y + c) % WB : Nat), .int .u64 ((x + y + c) / WB : Nat)])) w := by
  rw [run_callFunc_extern Tryd.func107 (by kernel_rfl) (by kernel_rfl) (by kernel_rfl) (e := add64Entry) (by kernel_rfl), run_add64 x y c (by omega) (by omega) (by omega) (by omega)]
  simp only [Result.andThen]
  congr 5 <;> (unfold WB; omega)

theorem Tryd.add64_run0 (x y : Nat) (w : World) :
    (callFunc 107 #[.int .u64 x, .int .u64 y, .int .u64 0]).run Tryd.prog w = .ok (.value (.tuple #[.int .u64 ((x + y) % WB : Nat), .int .u64 ((x + y) / WB : Nat)])) w := Tryd.add64_run x y 0 (by omega) w

set_option maxRecDepth 100000 in
set_option maxHeartbeats 800000 in
theorem mulAdd_any (x y p : Nat) (hx : x < 18446744073709551616) (hy : y < 18446744073709551616) (hp : p < 18446744073709551616) (w : World) :
    Calls Tryd.prog 106 #[.int .u64 x, .int .u64 y, .int .u64 p] w fun e w' => e = .returned (.tuple #[.int .u64 ((x * y + p) % WB : Nat), .int .u64 ((x * y + p) / WB : Nat)]) ∧ w' = w := by
  obtain ⟨hi, hhi⟩ : ∃ hi, hi = x * y / 18446744073709551616 := ⟨_, rfl⟩
  obtain ⟨lo, hlo⟩ : ∃ lo, lo = x * y % 18446744073709551616 := ⟨_, rfl⟩
  obtain ⟨m, hm⟩ : ∃ m, m = x * y := ⟨_, rfl⟩
  obtain ⟨t, ht⟩ : ∃ t, t = (lo + p) / WB := ⟨_, rfl⟩
  obtain ⟨r, hr⟩ : ∃ r, r = (lo + p) % WB := ⟨_, rfl⟩
  have hmx : m ≤ 18446744073709551615 * 18446744073709551615 := by rw [hm]; exact Nat.mul_le_mul (by omega) (by omega)
  have c1 : ∀ W, Calls Tryd.prog 131 #[.int .u64 x, .int .u64 y] W fun e w' => e = .returned (.tuple #[.int .u64 hi, .int .u64 lo]) ∧ w' = W := fun W => by rw [hhi, hlo]; exact Tryd.bits_Mul64 x y hx hy W
  have c2 : ∀ W, (callFunc 107 #[.int .u64 lo, .int .u64 p, .int .u64 0]).run Tryd.prog W = .ok (.value (.tuple #[.int .u64 r, .int .u64 t])) W := fun W => by rw [hr, ht]; exact Tryd.add64_run0 lo p W
  have e1 : (m + p) % WB = r := by rw [← hm] at hlo; unfold WB at *; omega
  have e2 : (m + p) / WB = hi + t := by rw [← hm] at hlo hhi; unfold WB at *; omega
  have e3 : IntKind.u64.wrap ((hi : Int) + (t : Int)) = ((hi + t : Nat) : Int) := by
    rw [← hm] at hlo hhi
    have : hi + t < 18446744073709551616 := by unfold WB at *; omega
    rw [IntWalk.u64_in _ (by omega)]; omega
  rw [← hm, e1, e2]
  have C1 := Lib.hid c1; clear c1
  clear e1 e2 hhi hlo ht hr hmx hm
  go_enter Tryd.func106, Tryd.ntmps106
  go_wp2_with (go_at_call 131; refine (C1.out _).mono ?_; rintro e w' ⟨rfl, rfl⟩)
  exact bodyPost_ret (v := .tuple #[.int .u64 r, .int .u64 ((hi : Int) + t)]) (by simp [results, Tryd.results106, go_sem]) rfl ⟨by rw [show ((hi + t : Nat) : Int) = (hi : Int) + t by omega], rfl⟩

end Go.Proofs.YtdjldhkmcmbiiaaDoor
/-
  The library's difference of words with a borrow.
-/
namespace Go.Proofs.YtdjldhkmcmbiiaaDoor
open Go.RowKit Num

theorem Tryd.sub64_run (x y b : Nat) (hb : b ≤ 1) (w : World) :
    (callFunc 139 #[.int .u64 x, .int .u64 y, .int .u64 b]).run Tryd.prog w = .ok (.value (.tuple #[.int .u64 ((x + WB - y - b) % WB : Nat), .int .u64 (if x < y + b then 1 else 0 : Nat)])) w := by
  rw [run_callFunc_extern Tryd.func139 (by kernel_rfl) (by kernel_rfl) (by kernel_rfl) (e := sub64Entry) (by kernel_rfl), run_sub64 x y b hb]
  rfl

end Go.Proofs.YtdjldhkmcmbiiaaDoor
/-
  The program's padding of a natural number with leading zeros, where none is wanted.
-/
namespace Go.Proofs.YtdjldhkmcmbiiaaDoor
open Go.RowKit Num

set_option maxHeartbeats 400000 in
theorem padW_same (A1 : Option Addr) (n cap : Nat) (w : World) :
    Calls Tryd.prog 119 #[.slice A1 n cap, .int .i64 (n : Nat)] w fun e w' => e = .returned (.slice A1 n cap) ∧ w' = w := by
  go_enter Tryd.func119, Tryd.ntmps119
  go_wp2_with fail
  go_ret
  exact ⟨rfl, rfl⟩

end Go.Proofs.YtdjldhkmcmbiiaaDoor
/-
  The library's count of leading zero bits of a word, and what a shift by it makes of the word.
-/
namespace Go.Proofs.YtdjldhkmcmbiiaaDoor
open Go.RowKit Num

theorem bitLen_spec (x : Nat) : x ≠ 0 → x < 2 ^ 64 → x < 2 ^ Lib.bitLen x ∧ 2 ^ (Lib.bitLen x - 1) ≤ x ∧ 1 ≤ Lib.bitLen x := by
  induction x using Nat.strongRecOn with
  | ind x ih =>
    intro h0 h
    rw [Lib.bitLen_half x h0 h]
    by_cases h1 : x / 2 = 0
    · have : x = 1 := by omega
      subst this
      decide
    · obtain ⟨k1, k2, k3⟩ := ih (x / 2) (by omega) h1 (by omega)
      generalize Lib.bitLen (x / 2) = n at *
      refine ⟨?_, ?_, by omega⟩
      · rw [Nat.add_comm, Nat.pow_succ]; omega
      · obtain ⟨m, rfl⟩ : ∃ m, n = m + 1 := ⟨n - 1, by omega⟩
        rw [show 1 + (m + 1) - 1 = m + 1 from by omega, Nat.pow_succ]
        simp at k2
        omega

/-- How many zero bits lead. -/
def lz (x : Nat) : Nat := 64 - Lib.bitLen x

theorem lz_spec (x : Nat) (h0 : x ≠ 0) (h : x < 18446744073709551616) : lz x < 64 ∧ x * 2 ^ lz x < 18446744073709551616 ∧ 9223372036854775808 ≤ x * 2 ^ lz x := by
  obtain ⟨h1, h2, h3⟩ := bitLen_spec x h0 h
  unfold lz
  have h4 : Lib.bitLen x ≤ 64 := by
    apply Nat.le_of_not_lt
    intro hlt
    have : 2 ^ 64 ≤ 2 ^ (Lib.bitLen x - 1) := Nat.pow_le_pow_right (by omega) (by omega)
    omega
  generalize Lib.bitLen x = n at *
  refine ⟨by omega, ?_, ?_⟩
  · have e : (2 : Nat) ^ n * 2 ^ (64 - n) = 18446744073709551616 := by rw [← Nat.pow_add, show n + (64 - n) = 64 from by omega]
    rw [← e]
    exact Nat.mul_lt_mul_of_pos_right h1 (Nat.pow_pos (by omega))
  · have e : (2 : Nat) ^ (n - 1) * 2 ^ (64 - n) = 9223372036854775808 := by rw [← Nat.pow_add, show n - 1 + (64 - n) = 63 from by omega]
    rw [← e]
    exact Nat.mul_le_mul_right _ h2

set_option maxHeartbeats 400000 in
theorem lz64 (x : Nat) (h : x < 18446744073709551616) (w : World) :
    Calls Tryd.prog 101 #[.int .u64 x] w fun e w' => e = .returned (.int .i64 (lz x : Nat)) ∧ w = w' := by
  have hb : Lib.bitLen x ≤ 64 := by
    by_cases h0 : x = 0
    · subst h0; decide
    · obtain ⟨h1, h2, h3⟩ := bitLen_spec x h0 h
      apply Nat.le_of_not_lt
      intro hlt
      have : 2 ^ 64 ≤ 2 ^ (Lib.bitLen x - 1) := Nat.pow_le_pow_right (by omega) (by omega)
      omega
  obtain ⟨n, hn⟩ : ∃ n, n = Lib.bitLen x := ⟨_, rfl⟩
  have hl : ((lz x : Nat) : Int) = 64 - (n : Int) := by unfold lz; omega
  rw [hl]
  rw [← hn] at hb
  have c1 : ∀ W, Calls Tryd.prog 130 #[.int .u64 x] W fun e w' => e = .returned (.int .i64 (n : Nat)) ∧ W = w' := fun W => (Tryd.bits_Len64 (x : Int) W (by omega) (by omega)).mono fun e w' ⟨he, hw⟩ => ⟨by rw [he, hn]; rfl, hw.symm⟩
  have C1 := Lib.hid c1; clear c1 hn hl
  go_enter Tryd.func101, Tryd.ntmps101
  go_wp2_with (go_at_call 130; refine (C1.out _).mono ?_; rintro e w' ⟨rfl, rfl⟩)
  go_ret
  exact ⟨rfl, rfl⟩

end Go.Proofs.YtdjldhkmcmbiiaaDoor
