/-
  Several texts in one: FracAll, LawValid.
-/
import Derived.Test.YtbcckgofoknmbaaDoorFracOfD
import Derived.Test.YtbcckgofoknmbaaDoorFracOfC
import Derived.Test.YtbcckgofoknmbaaDoorFracOfB
import Derived.Test.YtbcckgofoknmbaaDoorFracOfA
import Derived.Test.YtbcckgofoknmbaaDoorValidS
/-
  The program's reading of a Rat, in all cases, and IsValidRat on both sides.
-/
namespace Go.Proofs.YtbcckgofoknmbaaDoor
open Go.RowKit Num

theorem validR_eq (b : Bool) (x y : ByteArray) (nx : isNum x = true) (ny : isNum y = true) (h0 : numOf y ≠ 0) (h1 : numOf x ≠ 0) : validR b x y = decide (Nat.gcd (numOf x) (numOf y) = 1) := by
  unfold validR
  rw [nx, ny]
  simp [h0, h1]

theorem fracOf_all (b : Bool) (x y : ByteArray) (w : World) (hx : x.size ≤ 9223372036854775807) (hy : y.size ≤ 9223372036854775807) (hU : UnitB w) (hT : Tab64 w) :
    Calls Tryd.prog 26 #[.agg #[.bool b, .string x, .string y]] w fun e w' => FracPost w b (numOf x) (numOf y) (validR b x y) e w' := by
  have no : validR b x y = false → Calls Tryd.prog 26 #[.agg #[.bool b, .string x, .string y]] w (fun e w' => e = .returned noFrac ∧ Below w.heap.size w w') → Calls Tryd.prog 26 #[.agg #[.bool b, .string x, .string y]] w fun e w' => FracPost w b (numOf x) (numOf y) (validR b x y) e w' := by
    intro hr hc
    refine hc.mono fun e w' h => ?_
    rw [hr]
    exact ⟨by simpa using h.1, h.2⟩
  by_cases nx : isNum x = true
  · by_cases ny : isNum y = true
    · by_cases h0 : numOf y = 0
      · exact no (by unfold validR; simp [h0]) (fracOf_den0 b x y w hx hy hU hT nx ny h0)
      · by_cases h1 : numOf x = 0
        · by_cases h2 : b = true ∨ numOf y ≠ 1
          · refine no ?_ (fracOf_zero b x y w hx hy hU hT nx ny h0 h1 h2)
            unfold validR
            rcases h2 with h2 | h2 <;> simp [h1, h2]
          · obtain rfl : b = false := by cases b <;> simp_all
            have h3 : numOf y = 1 := by simp_all
            have e : validR false x y = true := by unfold validR; simp [nx, ny, h1, h3]
            rw [e]
            exact fracOf_nil x y w hx hy hU hT nx ny h0 h1 h3
        · by_cases h2 : numOf y = 1
          · have e : validR b x y = true := by rw [validR_eq b x y nx ny h0 h1, h2]; simp
            rw [e]
            exact fracOf_int b x y w hx hy hU hT nx ny h0 h1 h2
          · refine fracOf_gen b x y w hx hy hU hT nx ny h0 h1 h2 _ ?_
            rw [validR_eq b x y nx ny h0 h1]
            exact decide_eq_true_iff
    · exact no (by unfold validR; simp [ny]) (fracOf_early b x y w hx hy (.inr (by simpa using ny)))
  · exact no (by unfold validR; simp [nx]) (fracOf_early b x y w hx hy (.inl (by simpa using nx)))

end Go.Proofs.YtbcckgofoknmbaaDoor
/-
  The law on IsValidRat: the program answers as the model, whatever the Rat.
-/
namespace Go.Proofs.YtbcckgofoknmbaaDoor
open Go.RowKit Num

set_option maxRecDepth 100000 in
set_option maxHeartbeats 1600000 in
theorem szRat_any (b : Bool) (x y : ByteArray) (n : Int) (w : World) (hn : n ≤ 1048576) (hn0 : -1 ≤ n) (hx : x.size ≤ 9223372036854775807) (hy : y.size ≤ 9223372036854775807) :
    Calls Tryd.prog 4 #[.agg #[.bool b, .string x, .string y], .int .i64 n] w fun e w' => (∃ m : Int, e = .returned (.int .i64 m) ∧ -1 ≤ m ∧ m ≤ 1048576 ∧ (0 ≤ m → (x.size : Int) ≤ n ∧ (y.size : Int) ≤ n)) ∧ Below w.heap.size w w' := by
  have hbox := Box.new w 23 #[.bool b, .string x, .string y]
  obtain ⟨r0, r1, r2, _, _, _⟩ := hbox.three
  have w1 : IntKind.i64.wrap (n - (x.size : Int)) = n - (x.size : Int) := IntWalk.i64_in _ (by omega)
  by_cases h1 : n - (x.size : Int) < 0
  · go_enter Tryd.func4, Tryd.ntmps4
    go_wp2_with fail
    all_goals first
      | (go_ret; exact ⟨⟨-1, rfl, by omega, by omega, fun h => absurd h (by decide)⟩, (Below.refl _ w).alloc (Nat.le_refl _) _⟩)
      | (exfalso; omega)
  · have w2 : IntKind.i64.wrap (n - (x.size : Int) - (y.size : Int)) = n - (x.size : Int) - (y.size : Int) := IntWalk.i64_in _ (by omega)
    by_cases h2 : n - (x.size : Int) - (y.size : Int) < 0
    · go_enter Tryd.func4, Tryd.ntmps4
      go_wp2_with fail
      all_goals first
        | (go_ret; exact ⟨⟨-1, rfl, by omega, by omega, fun h => absurd h (by decide)⟩, (Below.refl _ w).alloc (Nat.le_refl _) _⟩)
        | (exfalso; omega)
    · go_enter Tryd.func4, Tryd.ntmps4
      go_wp2_with fail
      all_goals first
        | (go_ret; exact ⟨⟨n - (x.size : Int) - (y.size : Int), rfl, by omega, by omega, fun h => ⟨by omega, by omega⟩⟩, (Below.refl _ w).alloc (Nat.le_refl _) _⟩)
        | (exfalso; omega)

set_option maxRecDepth 100000 in
set_option maxHeartbeats 1600000 in
theorem toRat_any (b : Bool) (x y : ByteArray) (w : World) :
    Calls Tryd.prog 6 #[.agg #[.bool b, .string x, .string y]] w fun e w' => e = .returned (.agg #[.bool b, .string x, .string y]) ∧ Below w.heap.size w w' := by
  have hbox := Box.new w 23 #[.bool b, .string x, .string y]
  obtain ⟨r0, r1, r2, _, _, _⟩ := hbox.three
  go_enter Tryd.func6, Tryd.ntmps6
  go_wp2_with fail
  have hb2 := (Box.new (w.alloc (.cells #[.bool b, .string x, .string y] 23)) 25 #[.bool b, .string x, .string y]).alloc (.cells #[.bool b, .string x, .string y] 25)
  rw [show (w.alloc (.cells #[.bool b, .string x, .string y] 23)).heap.size = w.heap.size + 1 by simp] at hb2
  obtain ⟨k0, k1, k2, _, _, _⟩ := hb2.three
  refine bodyPost_ret (v := .agg #[.bool b, .string x, .string y]) (by simp [results, Tryd.results6, go_sem, k0, k1, k2]; done) rfl ⟨rfl, ?_⟩
  exact (((Below.refl _ w).alloc (Nat.le_refl _) _).alloc (by simp) _).alloc (by simp; omega) _

end Go.Proofs.YtbcckgofoknmbaaDoor
