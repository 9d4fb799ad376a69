/-
  The model's rational numbers: lowest terms, products, sums, comparison.
-/
import Derived.Test.YtdjldhkmcmbiiaaDoorDiv
namespace Go.Proofs.YtdjldhkmcmbiiaaDoor
open Go.RowKit Num

/-- The model's number: a sign and two natural numbers. -/
def IsQ (w : World) (v : Value) (neg : Bool) (n d : Nat) : Prop :=
  ∃ vn vd, v = .agg #[.bool neg, vn, vd] ∧ Nums 3 .i64 10000 w vn n ∧ Nums 3 .i64 10000 w vd d

theorem gcd_pos_right {n d : Nat} (h : 0 < d) : 0 < Nat.gcd n d := Nat.pos_of_ne_zero fun e => by
  have := Nat.gcd_eq_zero_iff.1 e
  omega

theorem ln_gcd (n d : Nat) (hd : 0 < d) : ln 10000 (Nat.gcd n d) ≤ ln 10000 d := ln_mono _ _ _ (by omega) (Nat.le_of_dvd hd (Nat.gcd_dvd_right n d))


set_option maxRecDepth 100000 in
set_option maxHeartbeats 1600000 in
theorem lowest_pos (vn vd : Value) (n d g : Nat) (w : World) (hn : Nums 3 .i64 10000 w vn n) (hd : Nums 3 .i64 10000 w vd d) (h0 : 0 < d) (hln : ln 10000 n ≤ 549755813888) (hld : ln 10000 d ≤ 549755813888) (hg : g = Nat.gcd n d) :
    Calls Tryd.prog 84 #[.agg #[.bool false, vn, vd]] w fun e w' => (∃ v, e = .returned v ∧ IsQ w' v false (n / g) (d / g)) ∧ Below w.heap.size w w' := by
  have Hn := Lib.hid hn; clear hn
  have Hd := Lib.hid hd; clear hd
  have hg0 : 0 < g := by rw [hg]; exact gcd_pos_right h0
  have hlg : ln 10000 g ≤ 549755813888 := by rw [hg]; exact Nat.le_trans (ln_gcd n d h0) hld
  have Hg := Lib.hid hg; clear hg
  have hA0 := (Box.new w 53 #[.bool false, vn, vd]).alloc (.cells #[.bool false, .slice none 0 0, .slice none 0 0] 53)
  have hR0 := Box.new (w.alloc (.cells #[.bool false, vn, vd] 53)) 53 #[.bool false, .slice none 0 0, .slice none 0 0]
  rw [show (w.alloc (.cells #[.bool false, vn, vd] 53)).heap.size = w.heap.size + 1 from by simp] at hR0
  go_enter Tryd.func84, Tryd.ntmps84
  go_wp2_with (first
    | (go_at_call 78; refine (gcdNat_any vn vd n d _ (Hn.out.below (((Below.refl _ w).alloc (Nat.le_refl _) _).alloc (by simp) _) (Nat.le_refl _)) (Hd.out.below (((Below.refl _ w).alloc (Nat.le_refl _) _).alloc (by simp) _) (Nat.le_refl _)) hln hld).mono ?_; rintro e w1 ⟨⟨vg, rfl, hvg⟩, hb1⟩; rw [← Hg.out] at hvg; have hW1 := (((Below.refl _ w).alloc (Nat.le_refl _) _).alloc (by simp) _).trans (hb1.mono (by simp <;> omega)); have hz1 := two_size hb1; have hA1 := hA0.below hb1 (by simp <;> omega); have hR1 := hR0.below hb1 (by simp <;> omega); obtain ⟨a10, a11, a12, _, _, _⟩ := hA1.three; obtain ⟨r10, r11, r12, f10, f11, f12⟩ := hR1.three; clear hb1)
    | (go_at_call 71; ((with_reducible refine (divNat_any vn vg n g _ (Hn.out.below hW1 (Nat.le_refl _)) hvg hg0 hln hlg).mono ?_); rintro e w2 ⟨⟨v3, v4, rfl, hv3, hv4⟩, hb2⟩; have hA2 := hA1.below hb2 (by omega); have hR2 := hR1.below hb2 (by omega); obtain ⟨a20, a21, a22, _, _, _⟩ := hA2.three; obtain ⟨r20, r21, r22, f20, f21, f22⟩ := hR2.three; have hW2 := hW1.trans (hb2.mono (by omega)); have hz2 : w.heap.size + 2 ≤ w2.heap.size := (by have := hb2.size; omega); obtain ⟨A3, c3, rfl, _, _, _⟩ := RowF.open hv3))
    | (go_at_call 71; ((with_reducible refine (divNat_any vd vg d g _ (Hd.out.below hW2 (Nat.le_refl _)) (hvg.below hb2 (Nat.le_refl _)) hg0 hld hlg).mono ?_); rintro e w3 ⟨⟨v5, v6, rfl, hv5, hv6⟩, hb3⟩; have hA3 := hA2.below hb3 (by omega); have hR3 := hR2.below hb3 (by omega); obtain ⟨a30, a31, a32, _, _, _⟩ := hA3.three; obtain ⟨r30, r31, r32, f30, f31, f32⟩ := hR3.three; obtain ⟨A5, c5, rfl, _, _, _⟩ := RowF.open hv5)))
  obtain ⟨k0, k1, k2⟩ := hR3.put3 (.bool false) (.slice A3 (ln 10000 (n / g)) c3) (.slice A5 (ln 10000 (d / g)) c5)
  refine bodyPost_ret (v := .agg #[.bool false, .slice A3 (ln 10000 (n / g)) c3, .slice A5 (ln 10000 (d / g)) c5]) (by simp [results, Tryd.results84, go_sem, k0, k1, k2]) rfl ?_
  exact ⟨⟨_, rfl, _, _, rfl, (hv3.below hb3 (Nat.le_refl _)).put3 hR3 (by decide) _ _ _, hv5.put3 hR3 (by decide) _ _ _⟩, below_put3 (hW2.trans (hb3.mono (by omega))) (by omega) _ _ _⟩

set_option maxRecDepth 100000 in
set_option maxHeartbeats 1600000 in
theorem lowest_neg (vn vd : Value) (n d g : Nat) (w : World) (hn : Nums 3 .i64 10000 w vn n) (hd : Nums 3 .i64 10000 w vd d) (h0 : 0 < d) (hln : ln 10000 n ≤ 549755813888) (hld : ln 10000 d ≤ 549755813888) (hg : g = Nat.gcd n d) (hng : 0 < ln 10000 (n / g)) :
    Calls Tryd.prog 84 #[.agg #[.bool true, vn, vd]] w fun e w' => (∃ v, e = .returned v ∧ IsQ w' v true (n / g) (d / g)) ∧ Below w.heap.size w w' := by
  have Hn := Lib.hid hn; clear hn
  have Hd := Lib.hid hd; clear hd
  have hg0 : 0 < g := by rw [hg]; exact gcd_pos_right h0
  have hlg : ln 10000 g ≤ 549755813888 := by rw [hg]; exact Nat.le_trans (ln_gcd n d h0) hld
  have Hg := Lib.hid hg; clear hg
  have hA0 := (Box.new w 53 #[.bool true, vn, vd]).alloc (.cells #[.bool false, .slice none 0 0, .slice none 0 0] 53)
  have hR0 := Box.new (w.alloc (.cells #[.bool true, vn, vd] 53)) 53 #[.bool false, .slice none 0 0, .slice none 0 0]
  rw [show (w.alloc (.cells #[.bool true, vn, vd] 53)).heap.size = w.heap.size + 1 from by simp] at hR0
  go_enter Tryd.func84, Tryd.ntmps84
  go_wp2_with (first
    | (go_at_call 78; refine (gcdNat_any vn vd n d _ (Hn.out.below (((Below.refl _ w).alloc (Nat.le_refl _) _).alloc (by simp) _) (Nat.le_refl _)) (Hd.out.below (((Below.refl _ w).alloc (Nat.le_refl _) _).alloc (by simp) _) (Nat.le_refl _)) hln hld).mono ?_; rintro e w1 ⟨⟨vg, rfl, hvg⟩, hb1⟩; rw [← Hg.out] at hvg; have hW1 := (((Below.refl _ w).alloc (Nat.le_refl _) _).alloc (by simp) _).trans (hb1.mono (by simp <;> omega)); have hz1 := two_size hb1; have hA1 := hA0.below hb1 (by simp <;> omega); have hR1 := hR0.below hb1 (by simp <;> omega); obtain ⟨a10, a11, a12, _, _, _⟩ := hA1.three; obtain ⟨r10, r11, r12, f10, f11, f12⟩ := hR1.three; clear hb1)
    | (go_at_call 71; ((with_reducible refine (divNat_any vn vg n g _ (Hn.out.below hW1 (Nat.le_refl _)) hvg hg0 hln hlg).mono ?_); rintro e w2 ⟨⟨v3, v4, rfl, hv3, hv4⟩, hb2⟩; have hA2 := hA1.below hb2 (by omega); have hR2 := hR1.below hb2 (by omega); obtain ⟨a20, a21, a22, _, _, _⟩ := hA2.three; obtain ⟨r20, r21, r22, f20, f21, f22⟩ := hR2.three; have hW2 := hW1.trans (hb2.mono (by omega)); have hz2 : w.heap.size + 2 ≤ w2.heap.size := (by have := hb2.size; omega); obtain ⟨A3, c3, rfl, _, _, _⟩ := RowF.open hv3))
    | (go_at_call 71; ((with_reducible refine (divNat_any vd vg d g _ (Hd.out.below hW2 (Nat.le_refl _)) (hvg.below hb2 (Nat.le_refl _)) hg0 hld hlg).mono ?_); rintro e w3 ⟨⟨v5, v6, rfl, hv5, hv6⟩, hb3⟩; have hA3 := hA2.below hb3 (by omega); have hR3 := hR2.below hb3 (by omega); obtain ⟨a30, a31, a32, _, _, _⟩ := hA3.three; obtain ⟨r30, r31, r32, f30, f31, f32⟩ := hR3.three; obtain ⟨A5, c5, rfl, _, _, _⟩ := RowF.open hv5)))
  obtain ⟨k0, k1, k2⟩ := hR3.put3 (.bool true) (.slice A3 (ln 10000 (n / g)) c3) (.slice A5 (ln 10000 (d / g)) c5)
  refine bodyPost_ret (v := .agg #[.bool true, .slice A3 (ln 10000 (n / g)) c3, .slice A5 (ln 10000 (d / g)) c5]) (by simp [results, Tryd.results84, go_sem, k0, k1, k2]) rfl ?_
  exact ⟨⟨_, rfl, _, _, rfl, (hv3.below hb3 (Nat.le_refl _)).put3 hR3 (by decide) _ _ _, hv5.put3 hR3 (by decide) _ _ _⟩, below_put3 (hW2.trans (hb3.mono (by omega))) (by omega) _ _ _⟩

set_option maxRecDepth 100000 in
set_option maxHeartbeats 1600000 in
theorem lowest_zero (vn vd : Value) (n d g : Nat) (w : World) (hn : Nums 3 .i64 10000 w vn n) (hd : Nums 3 .i64 10000 w vd d) (h0 : 0 < d) (hln : ln 10000 n ≤ 549755813888) (hld : ln 10000 d ≤ 549755813888) (hg : g = Nat.gcd n d) (hng : ¬ 0 < ln 10000 (n / g)) :
    Calls Tryd.prog 84 #[.agg #[.bool true, vn, vd]] w fun e w' => (∃ v, e = .returned v ∧ IsQ w' v false (n / g) (d / g)) ∧ Below w.heap.size w w' := by
  have Hn := Lib.hid hn; clear hn
  have Hd := Lib.hid hd; clear hd
  have hg0 : 0 < g := by rw [hg]; exact gcd_pos_right h0
  have hlg : ln 10000 g ≤ 549755813888 := by rw [hg]; exact Nat.le_trans (ln_gcd n d h0) hld
  have Hg := Lib.hid hg; clear hg
  have hA0 := (Box.new w 53 #[.bool true, vn, vd]).alloc (.cells #[.bool false, .slice none 0 0, .slice none 0 0] 53)
  have hR0 := Box.new (w.alloc (.cells #[.bool true, vn, vd] 53)) 53 #[.bool false, .slice none 0 0, .slice none 0 0]
  rw [show (w.alloc (.cells #[.bool true, vn, vd] 53)).heap.size = w.heap.size + 1 from by simp] at hR0
  go_enter Tryd.func84, Tryd.ntmps84
  go_wp2_with (first
    | (go_at_call 78; refine (gcdNat_any vn vd n d _ (Hn.out.below (((Below.refl _ w).alloc (Nat.le_refl _) _).alloc (by simp) _) (Nat.le_refl _)) (Hd.out.below (((Below.refl _ w).alloc (Nat.le_refl _) _).alloc (by simp) _) (Nat.le_refl _)) hln hld).mono ?_; rintro e w1 ⟨⟨vg, rfl, hvg⟩, hb1⟩; rw [← Hg.out] at hvg; have hW1 := (((Below.refl _ w).alloc (Nat.le_refl _) _).alloc (by simp) _).trans (hb1.mono (by simp <;> omega)); have hz1 := two_size hb1; have hA1 := hA0.below hb1 (by simp <;> omega); have hR1 := hR0.below hb1 (by simp <;> omega); obtain ⟨a10, a11, a12, _, _, _⟩ := hA1.three; obtain ⟨r10, r11, r12, f10, f11, f12⟩ := hR1.three; clear hb1)
    | (go_at_call 71; ((with_reducible refine (divNat_any vn vg n g _ (Hn.out.below hW1 (Nat.le_refl _)) hvg hg0 hln hlg).mono ?_); rintro e w2 ⟨⟨v3, v4, rfl, hv3, hv4⟩, hb2⟩; have hA2 := hA1.below hb2 (by omega); have hR2 := hR1.below hb2 (by omega); obtain ⟨a20, a21, a22, _, _, _⟩ := hA2.three; obtain ⟨r20, r21, r22, f20, f21, f22⟩ := hR2.three; have hW2 := hW1.trans (hb2.mono (by omega)); have hz2 : w.heap.size + 2 ≤ w2.heap.size := (by have := hb2.size; omega); obtain ⟨A3, c3, rfl, _, _, _⟩ := RowF.open hv3))
    | (go_at_call 71; ((with_reducible refine (divNat_any vd vg d g _ (Hd.out.below hW2 (Nat.le_refl _)) (hvg.below hb2 (Nat.le_refl _)) hg0 hld hlg).mono ?_); rintro e w3 ⟨⟨v5, v6, rfl, hv5, hv6⟩, hb3⟩; have hA3 := hA2.below hb3 (by omega); have hR3 := hR2.below hb3 (by omega); obtain ⟨a30, a31, a32, _, _, _⟩ := hA3.three; obtain ⟨r30, r31, r32, f30, f31, f32⟩ := hR3.three; obtain ⟨A5, c5, rfl, _, _, _⟩ := RowF.open hv5)))
  obtain ⟨k0, k1, k2⟩ := hR3.put3 (.bool false) (.slice A3 (ln 10000 (n / g)) c3) (.slice A5 (ln 10000 (d / g)) c5)
  refine bodyPost_ret (v := .agg #[.bool false, .slice A3 (ln 10000 (n / g)) c3, .slice A5 (ln 10000 (d / g)) c5]) (by simp [results, Tryd.results84, go_sem, k0, k1, k2]) rfl ?_
  exact ⟨⟨_, rfl, _, _, rfl, (hv3.below hb3 (Nat.le_refl _)).put3 hR3 (by decide) _ _ _, hv5.put3 hR3 (by decide) _ _ _⟩, below_put3 (hW2.trans (hb3.mono (by omega))) (by omega) _ _ _⟩

theorem div_gcd_pos {n d : Nat} (hd : 0 < d) : 0 < n / Nat.gcd n d ↔ 0 < n := by
  have hg := gcd_pos_right (n := n) hd
  constructor
  · intro h
    rcases Nat.eq_zero_or_pos n with rfl | h'
    · simp at h
    · exact h'
  · intro h
    exact Nat.div_pos (Nat.le_of_dvd h (Nat.gcd_dvd_left n d)) hg

/-- The model's reduction to lowest terms. -/
theorem lowest_any (neg : Bool) (vn vd : Value) (n d : Nat) (w : World) (hn : Nums 3 .i64 10000 w vn n) (hd : Nums 3 .i64 10000 w vd d) (h0 : 0 < d) (hln : ln 10000 n ≤ 549755813888) (hld : ln 10000 d ≤ 549755813888) :
    Calls Tryd.prog 84 #[.agg #[.bool neg, vn, vd]] w fun e w' => (∃ v, e = .returned v ∧ IsQ w' v (neg && decide (0 < n)) (n / Nat.gcd n d) (d / Nat.gcd n d)) ∧ Below w.heap.size w w' := by
  have hp := div_gcd_pos (n := n) h0
  have hz := ln_eq_zero 10000 (n / Nat.gcd n d) (by omega)
  cases neg with
  | false => exact lowest_pos vn vd n d _ w hn hd h0 hln hld rfl
  | true =>
    by_cases h : 0 < n
    · rw [decide_eq_true h]
      exact lowest_neg vn vd n d _ w hn hd h0 hln hld rfl (by have := hp.2 h; omega)
    · rw [decide_eq_false h]
      exact lowest_zero vn vd n d _ w hn hd h0 hln hld rfl (by rw [hz.2 (Nat.eq_zero_of_not_pos fun h2 => h (hp.1 h2))]; omega)

end Go.Proofs.YtdjldhkmcmbiiaaDoor
