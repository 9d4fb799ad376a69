/-
  Several texts in one: RatOfI, LawRatOf.
-/
import Derived.Test.YtmmonglcbkefmaaGreatDoorFracZ
import Derived.Test.YtmmonglcbkefmaaGreatDoorPDec
import Derived.Test.YtmmonglcbkefmaaGreatDoorM2
import Derived.Test.YtmmonglcbkefmaaGreatDoorEqRat
/-
  The program's RatOf, and the model's, where the denominator is 0.
-/
namespace Go.Proofs.YtmmonglcbkefmaaGreatDoor
open Go.RowKit Num

/-- What the program's RatOf asks of the world: two tables of the library's. -/
def Ready (W : World) : Prop := Tab64 W ∧ TabP W

theorem Ready.below {W W' : World} (h : Ready W) (hb : Below W.heap.size W W') : Ready W' := ⟨h.1.below hb, staysP.below _ _ h.2 hb⟩

theorem fracInts_any (num den : Int) (w : World) (hT : Tab64 w) (h1 : -9223372036854775808 ≤ num) (h2 : num ≤ 9223372036854775807) (h3 : -9223372036854775808 ≤ den) (h4 : den ≤ 9223372036854775807) (h0 : den ≠ 0) :
    Calls Tryz.prog 59 #[.int .i64 num, .int .i64 den] w fun e w' => (∃ v, e = .returned v ∧ IsF w' v ((decide (num < 0) != decide (den < 0)) && decide (0 < num.natAbs)) (num.natAbs / Nat.gcd num.natAbs den.natAbs) (den.natAbs / Nat.gcd num.natAbs den.natAbs)) ∧ Below w.heap.size w w' := by
  by_cases hz : num = 0
  · exact fracInts_zero num den w hT h1 h2 h3 h4 h0 hz
  · exact fracInts_pos num den w hT h1 h2 h3 h4 h0 hz

set_option maxRecDepth 100000 in
set_option maxHeartbeats 1600000 in
theorem implRatOf_any (num den : Int) (w : World) (hw : Ready w) (h1 : -9223372036854775808 ≤ num) (h2 : num ≤ 9223372036854775807) (h3 : -9223372036854775808 ≤ den) (h4 : den ≤ 9223372036854775807) (h0 : den ≠ 0) :
    Calls Tryz.prog 19 #[.int .i64 num, .int .i64 den] w fun e w' => e = .returned (ratOf num den) ∧ Below w.heap.size w w' := by
  have hd0 : (den == 0) = false := by rw [beq_eq_false_iff_ne]; exact h0
  have hR0 := Box.new w 24 #[.bool false, .string ⟨#[]⟩, .string ⟨#[]⟩]
  have hB0 := (Below.refl w.heap.size w).alloc (Nat.le_refl _) (.cells #[.bool false, .string ⟨#[]⟩, .string ⟨#[]⟩] 24)
  have hw0 := hw.below hB0
  obtain ⟨sg, hsg⟩ : ∃ sg, sg = ((decide (num < 0) != decide (den < 0)) && decide (0 < num.natAbs)) := ⟨_, rfl⟩
  obtain ⟨n, hn⟩ : ∃ n, n = num.natAbs / Nat.gcd num.natAbs den.natAbs := ⟨_, rfl⟩
  obtain ⟨d, hd⟩ : ∃ d, d = den.natAbs / Nat.gcd num.natAbs den.natAbs := ⟨_, rfl⟩
  have hn19 : n < 10000000000000000000 := by
    have : n ≤ num.natAbs := by rw [hn]; exact Nat.div_le_self _ _
    omega
  have hd19 : d < 10000000000000000000 := by
    have : d ≤ den.natAbs := by rw [hd]; exact Nat.div_le_self _ _
    omega
  obtain ⟨b, x, y, c, hsh⟩ := ratRes_shape sg n d
  have c1 : ∀ W, Tab64 W → Calls Tryz.prog 59 #[.int .i64 num, .int .i64 den] W fun e w' => (∃ v, e = .returned v ∧ IsF w' v sg n d) ∧ Below W.heap.size W w' := fun W hT => by
    rw [hsg, hn, hd]; exact fracInts_any num den W hT h1 h2 h3 h4 h0
  have c2 : ∀ (vn vd : Value) (W : World), Ready W → Nums 54 .u64 WB W vn n → Nums 54 .u64 WB W vd d → Calls Tryz.prog 43 #[.agg #[.bool sg, vn, vd]] W fun e w' => e = .returned (.tuple #[.agg #[.bool b, .string x, .string y], .bool c]) ∧ Below W.heap.size W w' := fun vn vd W hR hn hd => by
    rw [← hsh]
    exact ratF_any sg vn vd n d TabP staysP W hR.2 (decOf_small n hn19) (decOf_small d hd19) hn hd
  have hfin : ratOf num den = .tuple #[.agg #[.bool b, .string x, .string y], .bool c] := by rw [← hsh, ratOf, hsg, hn, hd]
  rw [hfin]
  have C1 := Lib.hid c1; clear c1
  have C2 := Lib.hid c2; clear c2
  have HW := Lib.hid hw0; clear hw0 hw
  clear hsg hn hd hn19 hd19 hsh hfin h0
  go_enter Tryz.func19, Tryz.ntmps19
  go_wp2_with (first
    | (go_at_call 59; refine (C1.out _ HW.out.1).mono ?_; rintro e w1 ⟨⟨v, rfl, vn, vd, rfl, hvn, hvd⟩, hb1⟩; have hz1 : w.heap.size + 1 ≤ w1.heap.size := (by have := hb1.size; simp at this; omega); have hR1 := hR0.below hb1 (by simp); have hB1 := hB0.trans (hb1.mono (by simp)))
    | (go_at_call 43; refine (C2.out _ _ _ (HW.out.below hb1) hvn hvd).mono ?_; rintro e w2 ⟨rfl, hb2⟩; have hR2 := hR1.below hb2 (by omega); have hB2 := hB1.trans (hb2.mono (by omega)); obtain ⟨r0, r1, r2, f0, f1, f2⟩ := hR2.three))
  obtain ⟨k0, k1, k2⟩ := hR2.put3 (.bool b) (.string x) (.string y)
  refine bodyPost_ret (v := .tuple #[.agg #[.bool b, .string x, .string y], .bool c]) (by simp [results, Tryz.results19, go_sem, k0, k1, k2]) rfl ?_
  exact ⟨rfl, below_put3 hB2 (Nat.le_refl _) _ _ _⟩

set_option maxRecDepth 100000 in
theorem implRatOf_zero (num : Int) (w : World) :
    Calls Tryz.prog 19 #[.int .i64 num, .int .i64 0] w fun e w' => e = .returned noRat ∧ Below w.heap.size w w' := by
  go_enter Tryz.func19, Tryz.ntmps19
  go_wp2_with fail
  exact bodyPost_ret (v := noRat) (by simp [results, Tryz.results19, go_sem, noRat]) rfl ⟨rfl, (Below.refl _ w).alloc (Nat.le_refl _) _⟩

set_option maxRecDepth 100000 in
theorem specRatOf_zero (num : Int) (w : World) :
    Calls Tryz.prog 35 #[.int .i64 num, .int .i64 0] w fun e w' => e = .returned noRat ∧ Below w.heap.size w w' := by
  go_enter Tryz.func35, Tryz.ntmps35
  go_wp2_with fail
  exact bodyPost_ret (v := noRat) (by simp [results, Tryz.results35, go_sem, noRat]) rfl ⟨rfl, (Below.refl _ w).alloc (Nat.le_refl _) _⟩

end Go.Proofs.YtmmonglcbkefmaaGreatDoor
/-
  The law on RatOf: the program answers as the model, whatever the two ints.
-/
namespace Go.Proofs.YtmmonglcbkefmaaGreatDoor
open Go.RowKit Num

theorem ratOf_both (num den : Int) (h1 : -9223372036854775808 ≤ num) (h2 : num ≤ 9223372036854775807) (h3 : -9223372036854775808 ≤ den) (h4 : den ≤ 9223372036854775807) : ∃ b x y c,
    (∀ W : World, Calls Tryz.prog 35 #[.int .i64 num, .int .i64 den] W fun e w' => e = .returned (.tuple #[.agg #[.bool b, .string x, .string y], .bool c]) ∧ Below W.heap.size W w') ∧
    (∀ W : World, Ready W → Calls Tryz.prog 19 #[.int .i64 num, .int .i64 den] W fun e w' => e = .returned (.tuple #[.agg #[.bool b, .string x, .string y], .bool c]) ∧ Below W.heap.size W w') := by
  by_cases h0 : den = 0
  · subst h0
    exact ⟨false, ⟨#[]⟩, ⟨#[]⟩, false, fun W => specRatOf_zero num W, fun W _ => implRatOf_zero num W⟩
  · obtain ⟨b, x, y, c, hsh⟩ := ratRes_shape ((decide (num < 0) != decide (den < 0)) && decide (0 < num.natAbs)) (num.natAbs / Nat.gcd num.natAbs den.natAbs) (den.natAbs / Nat.gcd num.natAbs den.natAbs)
    have e : ratOf num den = .tuple #[.agg #[.bool b, .string x, .string y], .bool c] := hsh
    refine ⟨b, x, y, c, fun W => ?_, fun W hW => ?_⟩
    · rw [← e]; exact specRatOf_any num den W h1 h2 h3 h4 h0
    · rw [← e]; exact implRatOf_any num den W hW h1 h2 h3 h4 h0

end Go.Proofs.YtmmonglcbkefmaaGreatDoor
