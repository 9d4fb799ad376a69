/-
  The law on RatOf: the program answers as the model, whatever the two ints.
-/
import Derived.Test.YteefgmnjhlmbiaaDoorRatOfI
import Derived.Test.YteefgmnjhlmbiaaDoorEqRat
namespace Go.Proofs.YteefgmnjhlmbiaaDoor
open Go.RowKit Num

theorem ratOf_both (num den : Int) (h1 : -9223372036854775808 ≤ num) (h2 : num ≤ 9223372036854775807) (h3 : -9223372036854775808 ≤ den) (h4 : den ≤ 9223372036854775807) : ∃ b x y c,
    (∀ W : World, Calls Tryd.prog 18 #[.int .i64 num, .int .i64 den] W fun e w' => e = .returned (.tuple #[.agg #[.bool b, .string x, .string y], .bool c]) ∧ Below W.heap.size W w') ∧
    (∀ W : World, Ready W → Calls Tryd.prog 19 #[.int .i64 num, .int .i64 den] W fun e w' => e = .returned (.tuple #[.agg #[.bool b, .string x, .string y], .bool c]) ∧ Below W.heap.size W w') := by
  by_cases h0 : den = 0
  · subst h0
    exact ⟨false, ⟨#[]⟩, ⟨#[]⟩, false, fun W => specRatOf_zero num W, fun W _ => implRatOf_zero num W⟩
  · obtain ⟨b, x, y, c, hsh⟩ := ratRes_shape ((decide (num < 0) != decide (den < 0)) && decide (0 < num.natAbs)) (num.natAbs / Nat.gcd num.natAbs den.natAbs) (den.natAbs / Nat.gcd num.natAbs den.natAbs)
    have e : ratOf num den = .tuple #[.agg #[.bool b, .string x, .string y], .bool c] := hsh
    refine ⟨b, x, y, c, fun W => ?_, fun W hW => ?_⟩
    · rw [← e]; exact specRatOf_any num den W h1 h2 h3 h4 h0
    · rw [← e]; exact implRatOf_any num den W hW h1 h2 h3 h4 h0

set_option maxRecDepth 100000 in
set_option maxHeartbeats 1600000 in
theorem lawRatOf_any (num den : Int) (w : World) (hw : Ready w) (h1 : -9223372036854775808 ≤ num) (h2 : num ≤ 9223372036854775807) (h3 : -9223372036854775808 ≤ den) (h4 : den ≤ 9223372036854775807) :
    Calls Tryd.prog 4 #[.int .i64 num, .int .i64 den] w fun e w' => e = .returned (.bool true) ∧ Below w.heap.size w w' := by
  obtain ⟨b, x, y, c, c1, c2⟩ := ratOf_both num den h1 h2 h3 h4
  have C1 := Lib.hid c1; clear c1
  have C2 := Lib.hid c2; clear c2
  have HW := Lib.hid hw; clear hw
  have hcc : (!c == c) = false := by cases c <;> rfl
  go_enter Tryd.func4, Tryd.ntmps4
  go_wp2_with (first
    | (go_at_call 18; refine (C1.out _).mono ?_; rintro e w1 ⟨rfl, hb1⟩; have hS := Box.new w1 26 #[.bool b, .string x, .string y]; have hA := (Below.refl _ w1).alloc (Nat.le_refl _) (.cells #[.bool b, .string x, .string y] 26); have hB1 := hb1.trans (hA.mono hb1.size))
    | (go_at_call 19; refine (C2.out _ (HW.out.below hB1)).mono ?_; rintro e w2 ⟨rfl, hb2⟩; have hS2 := hS.below hb2 (by simp); have hz2 : w1.heap.size + 1 ≤ w2.heap.size := (by have := hb2.size; simp at this; omega); have hB2 := hB1.trans (hb2.mono hB1.size); have hS3 := hS2.alloc (.cells #[.bool b, .string x, .string y] 26); obtain ⟨s0, s1, s2, _, _, _⟩ := hS3.three)
    | (go_at_call 20; refine (eqRat_same b x y _).mono ?_; rintro e w3 ⟨rfl, hb3⟩))
  all_goals go_ret
  exact ⟨rfl, (hB2.alloc hB2.size _).trans (hb3.mono (Nat.le_trans hB2.size (by simp)))⟩

end Go.Proofs.YteefgmnjhlmbiaaDoor
