/-
  The program's reading of a Rat, in all cases, and IsValidRat on both sides.
-/
import Derived.Test.YtdjldhkmcmbiiaaDoorFracOfD
import Derived.Test.YtdjldhkmcmbiiaaDoorFracOfC
import Derived.Test.YtdjldhkmcmbiiaaDoorFracOfB
import Derived.Test.YtdjldhkmcmbiiaaDoorFracOfA
import Derived.Test.YtdjldhkmcmbiiaaDoorValidS
namespace Go.Proofs.YtdjldhkmcmbiiaaDoor
open Go.RowKit Num

theorem validR_eq (b : Bool) (x y : ByteArray) (nx : isNum x = true) (ny : isNum y = true) (h0 : numOf y ≠ 0) (h1 : numOf x ≠ 0) : validR b x y = decide (Nat.gcd (numOf x) (numOf y) = 1) := by
  unfold validR
  rw [nx, ny]
  simp [h0, h1]

theorem fracOf_all (b : Bool) (x y : ByteArray) (w : World) (hx : x.size ≤ 9223372036854775807) (hy : y.size ≤ 9223372036854775807) (hU : UnitB w) (hT : Tab64 w) :
    Calls Tryd.prog 40 #[.agg #[.bool b, .string x, .string y]] w fun e w' => FracPost w b (numOf x) (numOf y) (validR b x y) e w' := by
  have no : validR b x y = false → Calls Tryd.prog 40 #[.agg #[.bool b, .string x, .string y]] w (fun e w' => e = .returned noFrac ∧ Below w.heap.size w w') → Calls Tryd.prog 40 #[.agg #[.bool b, .string x, .string y]] w fun e w' => FracPost w b (numOf x) (numOf y) (validR b x y) e w' := by
    intro hr hc
    refine hc.mono fun e w' h => ?_
    rw [hr]
    exact ⟨by simpa using h.1, h.2⟩
  by_cases nx : isNum x = true
  · by_cases ny : isNum y = true
    · by_cases h0 : numOf y = 0
      · exact no (by unfold validR; simp [h0]) (fracOf_den0 b x y w hx hy hU hT nx ny h0)
      · by_cases h1 : numOf x = 0
        · by_cases h2 : b = true ∨ numOf y ≠ 1
          · refine no ?_ (fracOf_zero b x y w hx hy hU hT nx ny h0 h1 h2)
            unfold validR
            rcases h2 with h2 | h2 <;> simp [h1, h2]
          · obtain rfl : b = false := by cases b <;> simp_all
            have h3 : numOf y = 1 := by simp_all
            have e : validR false x y = true := by unfold validR; simp [nx, ny, h1, h3]
            rw [e]
            exact fracOf_nil x y w hx hy hU hT nx ny h0 h1 h3
        · by_cases h2 : numOf y = 1
          · have e : validR b x y = true := by rw [validR_eq b x y nx ny h0 h1, h2]; simp
            rw [e]
            exact fracOf_int b x y w hx hy hU hT nx ny h0 h1 h2
          · refine fracOf_gen b x y w hx hy hU hT nx ny h0 h1 h2 _ ?_
            rw [validR_eq b x y nx ny h0 h1]
            exact decide_eq_true_iff
    · exact no (by unfold validR; simp [ny]) (fracOf_early b x y w hx hy (.inr (by simpa using ny)))
  · exact no (by unfold validR; simp [nx]) (fracOf_early b x y w hx hy (.inl (by simpa using nx)))

set_option maxRecDepth 100000 in
set_option maxHeartbeats 1600000 in
theorem implValid_any (b : Bool) (x y : ByteArray) (w : World) (hx : x.size ≤ 9223372036854775807) (hy : y.size ≤ 9223372036854775807) (hU : UnitB w) (hT : Tab64 w) :
    Calls Tryd.prog 17 #[.agg #[.bool b, .string x, .string y]] w fun e w' => e = .returned (.bool (validR b x y)) ∧ Below w.heap.size w w' := by
  have hb0 := (Below.refl w.heap.size w).alloc (Nat.le_refl _) (.cells #[.bool b, .string x, .string y] 26)
  have C1 := fracOf_all b x y (w.alloc (.cells #[.bool b, .string x, .string y] 26)) hx hy (hU.below hb0) (hT.below hb0)
  have hbox := Box.new w 26 #[.bool b, .string x, .string y]
  obtain ⟨r0, r1, r2, _, _, _⟩ := hbox.three
  have Hb0 := Lib.hid hb0
  have HC := Lib.hid C1
  clear hU hT hb0 C1 hbox
  cases hr : validR b x y with
  | true =>
    rw [hr] at HC
    clear hr
    go_enter Tryd.func17, Tryd.ntmps17
    go_wp2_with (go_at_call 40; refine HC.out.mono ?_; rintro e w' ⟨h, hb⟩; rw [if_pos rfl] at h; obtain ⟨vn, vd, rfl, hn, hd⟩ := h; obtain ⟨An, cn, rfl, _, _, _⟩ := RowF.open hn; obtain ⟨Ad, cd, rfl, _, _, _⟩ := RowF.open hd; have Hb := Lib.hid hb; clear hn hd hb)
    refine bodyPost_ret (v := .bool true) (by simp [results, Tryd.results17, go_sem]; done) rfl ?_
    refine ⟨rfl, ?_⟩
    have h1 := Hb0.out.trans (Hb.out.mono (by simp))
    exact h1.alloc h1.size _
  | false =>
    rw [hr] at HC
    clear hr
    go_enter Tryd.func17, Tryd.ntmps17
    go_wp2_with (go_at_call 40; refine HC.out.mono ?_; rintro e w' ⟨h, hb⟩; rw [if_neg (by decide)] at h; unfold noFrac at h; obtain rfl := h; have Hb := Lib.hid hb; clear hb)
    go_ret
    refine ⟨rfl, ?_⟩
    have h1 := Hb0.out.trans (Hb.out.mono (by simp))
    exact h1.alloc h1.size _

set_option maxRecDepth 100000 in
theorem specValid_any (b : Bool) (x y : ByteArray) (w : World) (hx : x.size ≤ 9223372036854775807) (hy : y.size ≤ 9223372036854775807) :
    Calls Tryd.prog 15 #[.agg #[.bool b, .string x, .string y]] w fun e w' => e = .returned (.bool (validR b x y)) ∧ Below w.heap.size w w' := by
  have hbox := Box.new w 26 #[.bool b, .string x, .string y]
  obtain ⟨r0, r1, r2, _, _, _⟩ := hbox.three
  have hb0 := (Below.refl w.heap.size w).alloc (Nat.le_refl _) (.cells #[.bool b, .string x, .string y] 26)
  have HC := Lib.hid (validS_any b x y (w.alloc (.cells #[.bool b, .string x, .string y] 26)) hx hy)
  have Hb0 := Lib.hid hb0
  clear hb0
  go_enter Tryd.func15, Tryd.ntmps15
  go_wp2_with (go_at_call 39; refine HC.out.mono ?_; rintro e w' ⟨rfl, hb⟩; have Hb := Lib.hid hb; clear hb)
  go_ret
  exact ⟨rfl, Hb0.out.trans (Hb.out.mono (by simp))⟩

end Go.Proofs.YtdjldhkmcmbiiaaDoor
