/-
  Several texts in one: FracAll, LawValid.
-/
import Derived.Test.YtlfghhmphgidjaaGreatDoorFracOfD
import Derived.Test.YtlfghhmphgidjaaGreatDoorFracOfC
import Derived.Test.YtlfghhmphgidjaaGreatDoorFracOfB
import Derived.Test.YtlfghhmphgidjaaGreatDoorFracOfA
import Derived.Test.YtlfghhmphgidjaaGreatDoorValidS
/-
  The program's reading of a Rat, in all cases, and IsValidRat on both sides.
-/
namespace Go.Proofs.YtlfghhmphgidjaaGreatDoor
open Go.RowKit Num

theorem validR_eq (b : Bool) (x y : ByteArray) (nx : isNum x = true) (ny : isNum y = true) (h0 : numOf y ≠ 0) (h1 : numOf x ≠ 0) : validR b x y = decide (Nat.gcd (numOf x) (numOf y) = 1) := by
  unfold validR
  rw [nx, ny]
  simp [h0, h1]

theorem fracOf_all (b : Bool) (x y : ByteArray) (w : World) (hx : x.size ≤ 9223372036854775807) (hy : y.size ≤ 9223372036854775807) (hU : UnitB w) (hT : Tab64 w) :
    Calls Tryz.prog 88 #[.agg #[.bool b, .string x, .string y]] w fun e w' => FracPost w b (numOf x) (numOf y) (validR b x y) e w' := by
  have no : validR b x y = false → Calls Tryz.prog 88 #[.agg #[.bool b, .string x, .string y]] w (fun e w' => e = .returned noFrac ∧ Below w.heap.size w w') → Calls Tryz.prog 88 #[.agg #[.bool b, .string x, .string y]] w fun e w' => FracPost w b (numOf x) (numOf y) (validR b x y) e w' := by
    intro hr hc
    refine hc.mono fun e w' h => ?_
    rw [hr]
    exact ⟨by simpa using h.1, h.2⟩
  by_cases nx : isNum x = true
  · by_cases ny : isNum y = true
    · by_cases h0 : numOf y = 0
      · exact no (by unfold validR; simp [h0]) (fracOf_den0 b x y w hx hy hU hT nx ny h0)
      · by_cases h1 : numOf x = 0
        · by_cases h2 : b = true ∨ numOf y ≠ 1
          · refine no ?_ (fracOf_zero b x y w hx hy hU hT nx ny h0 h1 h2)
            unfold validR
            rcases h2 with h2 | h2 <;> simp [h1, h2]
          · obtain rfl : b = false := by cases b <;> simp_all
            have h3 : numOf y = 1 := by simp_all
            have e : validR false x y = true := by unfold validR; simp [nx, ny, h1, h3]
            rw [e]
            exact fracOf_nil x y w hx hy hU hT nx ny h0 h1 h3
        · by_cases h2 : numOf y = 1
          · have e : validR b x y = true := by rw [validR_eq b x y nx ny h0 h1, h2]; simp
            rw [e]
            exact fracOf_int b x y w hx hy hU hT nx ny h0 h1 h2
          · refine fracOf_gen b x y w hx hy hU hT nx ny h0 h1 h2 _ ?_
            rw [validR_eq b x y nx ny h0 h1]
            exact decide_eq_true_iff
    · exact no (by unfold validR; simp [ny]) (fracOf_early b x y w hx hy (.inr (by simpa using ny)))
  · exact no (by unfold validR; simp [nx]) (fracOf_early b x y w hx hy (.inl (by simpa using nx)))

set_option maxRecDepth 100000 in
set_option maxHeartbeats 1600000 in
theorem implValid_any (b : Bool) (x y : ByteArray) (w : World) (hx : x.size ≤ 9223372036854775807) (hy : y.size ≤ 9223372036854775807) (hU : UnitB w) (hT : Tab64 w) :
    Calls Tryz.prog 148 #[.agg #[.bool b, .string x, .string y]] w fun e w' => e = .returned (.bool (validR b x y)) ∧ Below w.heap.size w w' := by
  have hb0 := (Below.refl w.heap.size w).alloc (Nat.le_refl _) (.cells #[.bool b, .string x, .string y] 27)
  have C1 := fracOf_all b x y (w.alloc (.cells #[.bool b, .string x, .string y] 27)) hx hy (hU.below hb0) (hT.below hb0)
  have hbox := Box.new w 27 #[.bool b, .string x, .string y]
  obtain ⟨r0, r1, r2, _, _, _⟩ := hbox.three
  have Hb0 := Lib.hid hb0
  have HC := Lib.hid C1
  clear hU hT hb0 C1 hbox
  cases hr : validR b x y with
  | true =>
    rw [hr] at HC
    clear hr
    go_enter Tryz.func148, Tryz.ntmps148
    go_wp2_with (go_at_call 88; refine HC.out.mono ?_; rintro e w' ⟨h, hb⟩; rw [if_pos rfl] at h; obtain ⟨vn, vd, rfl, hn, hd⟩ := h; obtain ⟨An, cn, rfl, _, _, _⟩ := RowF.open hn; obtain ⟨Ad, cd, rfl, _, _, _⟩ := RowF.open hd; have Hb := Lib.hid hb; clear hn hd hb)
    refine bodyPost_ret (v := .bool true) (by simp [results, Tryz.results148, go_sem]; done) rfl ?_
    refine ⟨rfl, ?_⟩
    have h1 := Hb0.out.trans (Hb.out.mono (by simp))
    exact h1.alloc h1.size _
  | false =>
    rw [hr] at HC
    clear hr
    go_enter Tryz.func148, Tryz.ntmps148
    go_wp2_with (go_at_call 88; refine HC.out.mono ?_; rintro e w' ⟨h, hb⟩; rw [if_neg (by decide)] at h; unfold noFrac at h; obtain rfl := h; have Hb := Lib.hid hb; clear hb)
    go_ret
    refine ⟨rfl, ?_⟩
    have h1 := Hb0.out.trans (Hb.out.mono (by simp))
    exact h1.alloc h1.size _

end Go.Proofs.YtlfghhmphgidjaaGreatDoor
/-
  The law on IsValidRat: the program answers as the model, whatever the Rat.
-/
namespace Go.Proofs.YtlfghhmphgidjaaGreatDoor
open Go.RowKit Num

set_option maxRecDepth 100000 in
set_option maxHeartbeats 1600000 in
theorem szRat_any (b : Bool) (x y : ByteArray) (n : Int) (w : World) (hn : n ≤ 1048576) (hn0 : -1 ≤ n) (hx : x.size ≤ 9223372036854775807) (hy : y.size ≤ 9223372036854775807) :
    Calls Tryz.prog 33 #[.agg #[.bool b, .string x, .string y], .int .i64 n] w fun e w' => (∃ m : Int, e = .returned (.int .i64 m) ∧ -1 ≤ m ∧ m ≤ 1048576 ∧ (0 ≤ m → (x.size : Int) ≤ n ∧ (y.size : Int) ≤ n)) ∧ Below w.heap.size w w' := by
  have hbox := Box.new w 47 #[.bool b, .string x, .string y]
  obtain ⟨r0, r1, r2, _, _, _⟩ := hbox.three
  have w1 : IntKind.i64.wrap (n - (x.size : Int)) = n - (x.size : Int) := IntWalk.i64_in _ (by omega)
  by_cases h1 : n - (x.size : Int) < 0
  · go_enter Tryz.func33, Tryz.ntmps33
    go_wp2_with fail
    all_goals first
      | (go_ret; exact ⟨⟨-1, rfl, by omega, by omega, fun h => absurd h (by decide)⟩, (Below.refl _ w).alloc (Nat.le_refl _) _⟩)
      | (exfalso; omega)
  · have w2 : IntKind.i64.wrap (n - (x.size : Int) - (y.size : Int)) = n - (x.size : Int) - (y.size : Int) := IntWalk.i64_in _ (by omega)
    by_cases h2 : n - (x.size : Int) - (y.size : Int) < 0
    · go_enter Tryz.func33, Tryz.ntmps33
      go_wp2_with fail
      all_goals first
        | (go_ret; exact ⟨⟨-1, rfl, by omega, by omega, fun h => absurd h (by decide)⟩, (Below.refl _ w).alloc (Nat.le_refl _) _⟩)
        | (exfalso; omega)
    · go_enter Tryz.func33, Tryz.ntmps33
      go_wp2_with fail
      all_goals first
        | (go_ret; exact ⟨⟨n - (x.size : Int) - (y.size : Int), rfl, by omega, by omega, fun h => ⟨by omega, by omega⟩⟩, (Below.refl _ w).alloc (Nat.le_refl _) _⟩)
        | (exfalso; omega)

set_option maxRecDepth 100000 in
set_option maxHeartbeats 1600000 in
theorem toRat_any (b : Bool) (x y : ByteArray) (w : World) :
    Calls Tryz.prog 35 #[.agg #[.bool b, .string x, .string y]] w fun e w' => e = .returned (.agg #[.bool b, .string x, .string y]) ∧ Below w.heap.size w w' := by
  have hbox := Box.new w 47 #[.bool b, .string x, .string y]
  obtain ⟨r0, r1, r2, _, _, _⟩ := hbox.three
  go_enter Tryz.func35, Tryz.ntmps35
  go_wp2_with fail
  have hb2 := (Box.new (w.alloc (.cells #[.bool b, .string x, .string y] 47)) 27 #[.bool b, .string x, .string y]).alloc (.cells #[.bool b, .string x, .string y] 27)
  rw [show (w.alloc (.cells #[.bool b, .string x, .string y] 47)).heap.size = w.heap.size + 1 by simp] at hb2
  obtain ⟨k0, k1, k2, _, _, _⟩ := hb2.three
  refine bodyPost_ret (v := .agg #[.bool b, .string x, .string y]) (by simp [results, Tryz.results35, go_sem, k0, k1, k2]; done) rfl ⟨rfl, ?_⟩
  exact (((Below.refl _ w).alloc (Nat.le_refl _) _).alloc (by simp) _).alloc (by simp; omega) _

end Go.Proofs.YtlfghhmphgidjaaGreatDoor
