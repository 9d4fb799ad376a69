/-
  Powers: how long their numerals are; the program's boundedPower.
-/
import Derived.Test.YteefgmnjhlmbiaaDoorImplSum
import Derived.Deep.LoopGhost
namespace Go.Proofs.YteefgmnjhlmbiaaDoor
open Go.RowKit Num

theorem decL_length (n : Nat) (h : n ≠ 0) : (decL n).length = ln 10 n := by
  unfold decL
  rw [if_neg h, List.length_map, List.length_reverse, length_digs]

theorem decL_mono (m n : Nat) (h : m ≤ n) : (decL m).length ≤ (decL n).length := by
  by_cases hm : m = 0
  · have h1 : (decL m).length = 1 := by rw [hm]; rfl
    have h2 := decL_pos n
    omega
  · rw [decL_length m hm, decL_length n (by omega)]
    exact ln_mono 10 _ _ (by omega) h

/-- A power is at least each power of lesser exponent, but for 0. -/
theorem pow_up (x k n : Nat) (h : k ≤ n) (hx : 0 < x) : x ^ k ≤ x ^ n := Nat.pow_le_pow_right hx h

theorem ln_pow_up (x k n : Nat) (h : k ≤ n) (h7 : 7 < ln WB (x ^ k)) : 7 < ln WB (x ^ n) := by
  have hx : 0 < x := by
    rcases Nat.eq_zero_or_pos x with e | e
    · rw [e] at h7
      have : ln WB (0 ^ k) ≤ 7 := by
        cases k with
        | zero => rw [Nat.pow_zero, ln_one]; omega
        | succ k => rw [Nat.pow_succ, Nat.mul_zero, ln_zero]; omega
      omega
    · exact e
  have := ln_mono WB _ _ WB_two (pow_up x k n h hx)
  omega

theorem dec_pow_up (x k n : Nat) (h : k ≤ n) (hl : 120 < (decL (x ^ k)).length) : 120 < (decL (x ^ n)).length := by
  have hx : 0 < x := by
    rcases Nat.eq_zero_or_pos x with e | e
    · rw [e] at hl
      have : (decL (0 ^ k)).length ≤ 5 := decL_len _ (by
        cases k with
        | zero => rw [Nat.pow_zero]; omega
        | succ k => rw [Nat.pow_succ, Nat.mul_zero]; omega)
      omega
    · exact e
  have := decL_mono _ _ (pow_up x k n h hx)
  omega

set_option maxRecDepth 100000 in
set_option maxHeartbeats 1600000 in
/-- The program's boundedPower. -/
theorem powW_any (vb : Value) (x n : Nat) (w : World) (hb : Nums 94 .u64 WB w vb x) (hn : n ≤ 200) (hx : ln WB x ≤ 7) :
    Calls Tryd.prog 62 #[vb, .int .i64 (n : Nat)] w fun e w' => (∃ v, e = .returned (.tuple #[v, .bool (decide (ln WB (x ^ n) ≤ 7))]) ∧ (∃ q m c, v = .slice q m c) ∧ (ln WB (x ^ n) ≤ 7 → Nums 94 .u64 WB w' v (x ^ n))) ∧ Below w.heap.size w w' := by
  obtain ⟨Ab, cb, rfl, _, _, _⟩ := RowF.open hb
  have Hb := Lib.hid hb; clear hb
  go_enter Tryd.func62, Tryd.ntmps62
  go_wp2_with fail
  go_loopg [6, 9] n (fun q pv iv wr => ∃ k : Nat, k + q = n ∧ iv = .int .i64 (k : Nat) ∧ Nums 94 .u64 WB wr pv (x ^ k) ∧ ln WB (x ^ k) ≤ 7 ∧ Below w.heap.size w wr)
  case atStart =>
    refine ⟨0, by omega, rfl, ?_, ?_, ?_⟩
    · rw [Nat.pow_zero]
      exact nums_new (Box.new _ _ _)
    · rw [Nat.pow_zero, ln_one]; omega
    · exact (Below.refl _ w).alloc (Nat.le_refl _) _
  case round =>
    obtain ⟨k, hk, rfl, hp, hlp, hbel⟩ := hrel
    obtain ⟨Ap, cp, rfl, _, _, _⟩ := RowF.open hp
    have Hp := Lib.hid hp; clear hp
    by_cases h0 : k < n
    · obtain ⟨P, hP⟩ : ∃ P, P = x ^ (k + 1) := ⟨_, rfl⟩
      have hP' : x ^ k * x = P := by rw [hP, Nat.pow_succ]
      have HP' := Lib.hid hP'; clear hP'
      have HP := Lib.hid hP; clear hP
      by_cases h7 : ln WB P ≤ 7
      · go_wp2_with (go_at_call 74; refine (mulNats_any _ _ (x ^ k) x _ Hp.out (Hb.out.below hbel (Nat.le_refl _)) (by omega) (by omega)).mono ?_; rintro e w3 ⟨⟨v3, rfl, hv3⟩, hb3⟩; rw [HP'.out] at hv3; obtain ⟨A3, c3, rfl, _, _, _⟩ := RowF.open hv3; have HV := Lib.hid hv3; clear hv3)
        go_roundg (gk - 1)
        case rel => exact ⟨k + 1, by omega, by go_num, by rw [← HP.out]; exact HV.out, by rw [← HP.out]; exact h7, hbel.trans (hb3.mono hbel.size)⟩
        case measure => omega
      · have hbig : ¬ ln WB (x ^ n) ≤ 7 := by
          have := ln_pow_up x (k + 1) n (by omega) (by rw [← HP.out]; omega)
          omega
        have Hbig := Lib.hid hbig; clear hbig
        go_wp2_with (go_at_call 74; refine (mulNats_any _ _ (x ^ k) x _ Hp.out (Hb.out.below hbel (Nat.le_refl _)) (by omega) (by omega)).mono ?_; rintro e w3 ⟨⟨v3, rfl, hv3⟩, hb3⟩; rw [HP'.out] at hv3; obtain ⟨A3, c3, rfl, _, _, _⟩ := RowF.open hv3; clear hv3)
        go_ret2
        exact ⟨⟨_, by rw [decide_eq_false Hbig.out]; rfl, ⟨_, _, _, rfl⟩, fun h => absurd h Hbig.out⟩, hbel.trans (hb3.mono hbel.size)⟩
    · obtain rfl : k = n := by omega
      go_wp2_with fail
      go_ret2
      exact ⟨⟨_, by rw [decide_eq_true hlp]; rfl, ⟨_, _, _, rfl⟩, fun _ => Hp.out⟩, hbel⟩

end Go.Proofs.YteefgmnjhlmbiaaDoor
