/-
  The model's RatOf.
-/
import Derived.Test.YtlfogpollmagoaaDoorRat
namespace Go.Proofs.YtlfogpollmagoaaDoor
open Go.RowKit Num

theorem intQ_any (z : Int) (w : World) (h1 : -9223372036854775808 ≤ z) (h2 : z ≤ 9223372036854775807) :
    Calls Tryd.prog 41 #[.int .i64 z] w fun e w' => (∃ v, e = .returned v ∧ IsQ w' v (decide (z < 0)) z.natAbs 1) ∧ Below w.heap.size w w' := by
  by_cases h : 0 ≤ z
  · obtain ⟨n, rfl⟩ := Int.eq_ofNat_of_zero_le h
    rw [decide_eq_false (by omega), Int.natAbs_natCast]
    exact intQ_pos n w (by omega)
  · obtain ⟨n, hn⟩ : ∃ n : Nat, z = -(n : Int) := ⟨z.natAbs, by omega⟩
    subst hn
    rw [decide_eq_true (by omega), Int.natAbs_neg, Int.natAbs_natCast]
    exact intQ_neg n w (by omega) (by omega)

theorem ln_int19 (n : Nat) (h : n ≤ 9223372036854775808) : ln 10000 n ≤ 549755813888 := Nat.le_trans (ln_le_of_lt 10000 n 5 (by omega) (by omega)) (by omega)

/-- What RatOf answers. -/
def ratOf (num den : Int) : Value :=
  ratRes ((decide (num < 0) != decide (den < 0)) && decide (0 < num.natAbs)) (num.natAbs / Nat.gcd num.natAbs den.natAbs) (den.natAbs / Nat.gcd num.natAbs den.natAbs)

theorem ratRes_shape (sg : Bool) (N D : Nat) : ∃ b x y c, ratRes sg N D = .tuple #[.agg #[.bool b, .string x, .string y], .bool c] := by
  unfold ratRes
  split
  · exact ⟨_, _, _, _, rfl⟩
  · exact ⟨_, _, _, _, rfl⟩

set_option maxRecDepth 100000 in
set_option maxHeartbeats 1600000 in
theorem specRatOf_any (num den : Int) (w : World) (h1 : -9223372036854775808 ≤ num) (h2 : num ≤ 9223372036854775807) (h3 : -9223372036854775808 ≤ den) (h4 : den ≤ 9223372036854775807) (h0 : den ≠ 0) :
    Calls Tryd.prog 18 #[.int .i64 num, .int .i64 den] w fun e w' => e = .returned (ratOf num den) ∧ Below w.heap.size w w' := by
  have hd0 : (den == 0) = false := by rw [beq_eq_false_iff_ne]; exact h0
  have hda : 0 < den.natAbs := by omega
  have hln := ln_int19 num.natAbs (by omega)
  have hld := ln_int19 den.natAbs (by omega)
  have hR0 := Box.new w 26 #[.bool false, .string ⟨#[]⟩, .string ⟨#[]⟩]
  have hB0 := (Below.refl w.heap.size w).alloc (Nat.le_refl _) (.cells #[.bool false, .string ⟨#[]⟩, .string ⟨#[]⟩] 26)
  obtain ⟨s1, hs1⟩ : ∃ s1, s1 = decide (num < 0) := ⟨_, rfl⟩
  obtain ⟨s2, hs2⟩ : ∃ s2, s2 = decide (den < 0) := ⟨_, rfl⟩
  obtain ⟨n, hn⟩ : ∃ n, n = num.natAbs := ⟨_, rfl⟩
  obtain ⟨d, hd⟩ : ∃ d, d = den.natAbs := ⟨_, rfl⟩
  have c1 : ∀ W : World, Calls Tryd.prog 41 #[.int .i64 num] W fun e w' => (∃ v, e = .returned v ∧ IsQ w' v s1 n 1) ∧ Below W.heap.size W w' := fun W => by rw [hs1, hn]; exact intQ_any num W h1 h2
  have c2 : ∀ W : World, Calls Tryd.prog 41 #[.int .i64 den] W fun e w' => (∃ v, e = .returned v ∧ IsQ w' v s2 d 1) ∧ Below W.heap.size W w' := fun W => by rw [hs2, hd]; exact intQ_any den W h3 h4
  have C1 := Lib.hid c1; clear c1
  have C2 := Lib.hid c2; clear c2
  have hfin : ratOf num den = ratRes ((s1 != s2) && decide (0 < n)) (n / Nat.gcd n d) (d / Nat.gcd n d) := by rw [ratOf, hs1, hs2, hn, hd]
  rw [hfin]
  rw [← hn] at hln
  rw [← hd] at hld hda
  obtain ⟨b, x, y, c, hsh⟩ := ratRes_shape ((s1 != s2) && decide (0 < n)) (n / Nat.gcd n d) (d / Nat.gcd n d)
  have c3 : ∀ (vn vd : Value) (W : World), Nums 3 .i64 10000 W vn n → Nums 3 .i64 10000 W vd d → Calls Tryd.prog 42 #[.agg #[.bool (!s1 == s2), vn, vd]] W fun e w' => e = .returned (.tuple #[.agg #[.bool b, .string x, .string y], .bool c]) ∧ Below W.heap.size W w' := fun vn vd W hn hd => by
    rw [← hsh]
    exact rat_low (!s1 == s2) vn vd n d _ _ _ W hn hd hda hln hld rfl rfl rfl
  have C3 := Lib.hid c3; clear c3
  rw [hsh]
  clear hfin hs1 hs2 hn hd h0 hsh
  go_enter Tryd.func18, Tryd.ntmps18
  go_wp2_with (go_at_call 41; first
    | ((with_reducible refine (C1.out _).mono ?_); rintro e w1 ⟨⟨v, rfl, vn1, vd1, rfl, hn1, hd1⟩, hb1⟩; have hz1 : w.heap.size + 1 ≤ w1.heap.size := (by have := hb1.size; simp at this; omega); have hR1 := hR0.below hb1 (by simp); have hB1 := hB0.trans (hb1.mono (by simp)); obtain ⟨An, cn, rfl, _, _, _⟩ := RowF.open hn1; obtain ⟨A1, k1, rfl, _, _, _⟩ := RowF.open hd1)
    | ((with_reducible refine (C2.out _).mono ?_); rintro e w2 ⟨⟨v, rfl, vn2, vd2, rfl, hn2, hd2⟩, hb2⟩; have hz2 : w.heap.size + 1 ≤ w2.heap.size := (by have := hb2.size; omega); have hR2 := hR1.below hb2 (by omega); have hB2 := hB1.trans (hb2.mono (by omega)); obtain ⟨Ad, cd, rfl, _, _, _⟩ := RowF.open hn2; obtain ⟨A2, k2, rfl, _, _, _⟩ := RowF.open hd2))
  have hbW := ((Below.refl _ w2).alloc (Nat.le_refl _) (.cells #[.bool s1, .slice An (ln 10000 n) cn, .slice A1 (ln 10000 1) k1] 53)).alloc (by simp) (.cells #[.bool s2, .slice Ad (ln 10000 d) cd, .slice A2 (ln 10000 1) k2] 53)
  refine (C3.out _ _ _ ((hn1.below hb2 (Nat.le_refl _)).below hbW (Nat.le_refl _)) (hn2.below hbW (Nat.le_refl _))).mono ?_
  rintro e w3 ⟨rfl, hb3⟩
  have hB3 := (hB2.trans (hbW.mono (by omega))).trans (hb3.mono (by simp; omega))
  have hR3 := (hR2.below hbW (by omega)).below hb3 (by simp; omega)
  obtain ⟨r0, r1, r2, f0, f1, f2⟩ := hR3.three
  go_wp2_with fail
  obtain ⟨k0, k1, k2⟩ := hR3.put3 (.bool b) (.string x) (.string y)
  refine bodyPost_ret (v := .tuple #[.agg #[.bool b, .string x, .string y], .bool c]) (by simp [results, Tryd.results18, go_sem, k0, k1, k2]) rfl ?_
  exact ⟨rfl, below_put3 hB3 (Nat.le_refl _) _ _ _⟩

end Go.Proofs.YtlfogpollmagoaaDoor
