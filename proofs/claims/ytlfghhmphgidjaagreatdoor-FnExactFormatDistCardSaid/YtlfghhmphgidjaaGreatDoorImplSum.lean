/-
  Several texts in one: ImplAdd, NegF, ImplSub, SpecAny.
-/
import Derived.Test.YtlfghhmphgidjaaGreatDoorAddFO
import Derived.Test.YtlfghhmphgidjaaGreatDoorDecAll
import Derived.Test.YtlfghhmphgidjaaGreatDoorSpecOps
/-
  The program's AddRat.
-/
namespace Go.Proofs.YtlfghhmphgidjaaGreatDoor
open Go.RowKit Num

/-- The program's fraction as a Rat. -/
theorem ratF_all (neg : Bool) (vn vd : Value) (n d : Nat) (w : World) (hw : TabP w) (hn : Nums 143 .u64 WB w vn n) (hd : Nums 143 .u64 WB w vd d) :
    Calls Tryz.prog 66 #[.agg #[.bool neg, vn, vd]] w fun e w' => e = .returned (ratRes neg n d) ∧ Below w.heap.size w w' := by
  by_cases h : 7 < ln WB n ∨ 7 < ln WB d
  · exact ratF_wide neg vn vd n d w hn hd h
  · exact ratF_narrow neg vn vd n d TabP staysP w hw (decOf_seven n (by omega)) (decOf_seven d (by omega)) hn hd (by omega) (by omega)

/-- What an operation on two Rats hands back. -/
def opRes (b1 : Bool) (x1 y1 : ByteArray) (b2 : Bool) (x2 y2 : ByteArray) (o : Bool × Nat × Nat) : Value :=
  if (validR b1 x1 y1 && validR b2 x2 y2) = true then ratRes o.1 o.2.1 o.2.2 else noRat

theorem validR_gcd {b : Bool} {x y : ByteArray} (h : validR b x y = true) : Nat.gcd (numOf x) (numOf y) = 1 := by
  unfold validR at h
  simp only [Bool.and_eq_true, decide_eq_true_eq] at h
  exact h.2

theorem ln_capS {s : ByteArray} (h : isNum s = true) : ln WB (numOf s) ≤ 7 := ln_le_of_lt WB _ 7 (by unfold WB; omega) (Nat.lt_of_lt_of_le (numOf_lt h) pow120)

end Go.Proofs.YtlfghhmphgidjaaGreatDoor
/-
  The program's negative of a fraction.
-/
namespace Go.Proofs.YtlfghhmphgidjaaGreatDoor
open Go.RowKit Num

theorem isZero_any (b : Bool) (v1 v2 : Value) (n d : Nat) (w : World) (h1 : Nums 143 .u64 WB w v1 n) (h2 : Nums 143 .u64 WB w v2 d) :
    Calls Tryz.prog 80 #[.agg #[.bool b, v1, v2]] w fun e w' => e = .returned (.bool (decide (n = 0))) ∧ Below w.heap.size w w' := by
  obtain ⟨A1, c1, rfl, _, _, _⟩ := RowF.open h1
  obtain ⟨A2, c2, rfl, _, _, _⟩ := RowF.open h2
  have hv : decide (n = 0) = ((ln WB n : Int) == 0) := by
    by_cases h : n = 0
    · subst h; rw [ln_zero]; rfl
    · have := lnz (b := WB) WB_two (by omega : 0 < n)
      rw [decide_eq_false h]; symm; simp; omega
  rw [hv]
  clear hv h1 h2
  go_enter Tryz.func80, Tryz.ntmps80
  go_wp2_with fail
  go_ret
  exact ⟨rfl, (Below.refl _ w).alloc (Nat.le_refl _) _⟩

set_option maxRecDepth 100000 in
set_option maxHeartbeats 1600000 in
theorem negF_any (b : Bool) (v1 v2 : Value) (n d : Nat) (w : World) (h1 : Nums 143 .u64 WB w v1 n) (h2 : Nums 143 .u64 WB w v2 d) :
    Calls Tryz.prog 91 #[.agg #[.bool b, v1, v2]] w fun e w' => (∃ v, e = .returned v ∧ IsF w' v (!b && decide (0 < n)) n d) ∧ Below w.heap.size w w' := by
  have Z : Hid (∀ W, Below w.heap.size w W → _) := Lib.hid fun W hW => isZero_any b v1 v2 n d W (h1.below hW (Nat.le_refl _)) (h2.below hW (Nat.le_refl _))
  obtain ⟨z, hz⟩ : ∃ z, z = decide (n = 0) := ⟨_, rfl⟩
  have hz' : decide (0 < n) = !z := by
    rw [hz]; by_cases h : n = 0
    · simp [h]
    · rw [decide_eq_false h, decide_eq_true (by omega)]; rfl
  rw [hz']
  rw [← hz] at Z
  clear hz hz'
  obtain ⟨A1, c1, rfl, _, _, _⟩ := RowF.open h1
  obtain ⟨A2, c2, rfl, _, _, _⟩ := RowF.open h2
  have hA := (Box.new w 85 #[.bool b, .slice A1 (ln WB n) c1, .slice A2 (ln WB d) c2]).alloc (.cells #[.bool false, .slice none 0 0, .slice none 0 0] 85)
  have hR := Box.new (w.alloc (.cells #[.bool b, .slice A1 (ln WB n) c1, .slice A2 (ln WB d) c2] 85)) 85 #[.bool false, .slice none 0 0, .slice none 0 0]
  rw [show (w.alloc (.cells #[.bool b, .slice A1 (ln WB n) c1, .slice A2 (ln WB d) c2] 85)).heap.size = w.heap.size + 1 by simp] at hR
  have hB := ((Below.refl w.heap.size w).alloc (Nat.le_refl _) (.cells #[.bool b, .slice A1 (ln WB n) c1, .slice A2 (ln WB d) c2] 85)).alloc (by simp) (.cells #[.bool false, .slice none 0 0, .slice none 0 0] 85)
  have HB := Lib.hid hB
  have H1 := Lib.hid h1
  have H2 := Lib.hid h2
  clear hB h1 h2
  cases b with
  | true =>
    go_enter Tryz.func91, Tryz.ntmps91
    go_wp2_with fail
    have hR2 := Box.new (w.alloc (.cells #[.bool false, .slice A1 (ln WB n) c1, .slice A2 (ln WB d) c2] 85)) 85 #[.bool false, .slice A1 (ln WB n) c1, .slice A2 (ln WB d) c2]
    rw [show (w.alloc (.cells #[.bool false, .slice A1 (ln WB n) c1, .slice A2 (ln WB d) c2] 85)).heap.size = w.heap.size + 1 by simp] at hR2
    obtain ⟨m0, m1, m2, _, _, _⟩ := hR2.three
    have hB2 := ((Below.refl w.heap.size w).alloc (Nat.le_refl _) (.cells #[.bool false, .slice A1 (ln WB n) c1, .slice A2 (ln WB d) c2] 85)).alloc (by simp) (.cells #[.bool false, .slice A1 (ln WB n) c1, .slice A2 (ln WB d) c2] 85)
    refine bodyPost_ret (v := .agg #[.bool false, .slice A1 (ln WB n) c1, .slice A2 (ln WB d) c2]) (by simp [results, Tryz.results91, go_sem, m0, m1, m2]; done) rfl ?_
    exact ⟨⟨_, rfl, ⟨_, _, rfl, H1.out.below hB2 (Nat.le_refl _), H2.out.below hB2 (Nat.le_refl _)⟩⟩, hB2⟩
  | false =>
    go_enter Tryz.func91, Tryz.ntmps91
    go_wp2_with (go_at_call 80; refine (Z.out _ HB.out).mono ?_; rintro e w1 ⟨rfl, hb1⟩; replace hA := hA.below hb1 hA.lt; replace hR := hR.below hb1 hR.lt; replace HB := Lib.hid (HB.out.trans (hb1.mono HB.out.size)); obtain ⟨r0, r1, r2, f0, f1, f2⟩ := hA.three; have hR2 := hR.other (by omega : w.heap.size ≠ w.heap.size + 1) 0 (.bool (!z)); obtain ⟨z0, z1, z2, g0, g1, g2⟩ := hR2.three; clear hb1)
    obtain ⟨m0, m1, m2⟩ := hR2.put3 (.bool (!z)) (.slice A1 (ln WB n) c1) (.slice A2 (ln WB d) c2)
    have q1 := (H1.out.below HB.out (Nat.le_refl _)).setCell (p := ⟨w.heap.size, 0, none⟩) ((H1.out.below HB.out (Nat.le_refl _)).apart hA (by decide)) (.bool (!z))
    have q2 := (H2.out.below HB.out (Nat.le_refl _)).setCell (p := ⟨w.heap.size, 0, none⟩) ((H2.out.below HB.out (Nat.le_refl _)).apart hA (by decide)) (.bool (!z))
    refine bodyPost_ret (v := .agg #[.bool (!z), .slice A1 (ln WB n) c1, .slice A2 (ln WB d) c2]) (by simp [results, Tryz.results91, go_sem, m0, m1, m2]; done) rfl ?_
    exact ⟨⟨_, rfl, ⟨_, _, rfl, Nums.put3 q1 hR2 (by decide) _ _ _, Nums.put3 q2 hR2 (by decide) _ _ _⟩⟩, below_put3 (HB.out.setCell (p := ⟨w.heap.size, 0, none⟩) (Nat.le_refl _) _) (by omega) _ _ _⟩

end Go.Proofs.YtlfghhmphgidjaaGreatDoor
/-
  The program's SubRat.
-/
namespace Go.Proofs.YtlfghhmphgidjaaGreatDoor
open Go.RowKit Num

theorem holdG {W w' : World} {B G H Q : Nat} {t u q : TypeId} {a b c d e f : Value} (h : Box w' G t #[a, b, c]) (k : Box w' H u #[d, e, f]) (hb : Below B W w') (hq : Boxy w' Q q) :
    w'.cell? ⟨G, 0, none⟩ = some a ∧ w'.cell? ⟨G, 1, none⟩ = some b ∧ w'.cell? ⟨G, 2, none⟩ = some c ∧ w'.cell? ⟨H, 0, none⟩ = some d ∧ w'.cell? ⟨H, 1, none⟩ = some e ∧ w'.cell? ⟨H, 2, none⟩ = some f ∧ Box w' G t #[a, b, c] ∧ Box w' H u #[d, e, f] ∧ Below B W w' ∧ Boxy w' Q q := by
  obtain ⟨h1, h2, h3, _⟩ := h.three
  obtain ⟨k1, k2, k3, _⟩ := k.three
  exact ⟨h1, h2, h3, k1, k2, k3, h, k, hb, hq⟩
theorem holdG1 {W w' : World} {B G H Q : Nat} {t u q : TypeId} {x y : Array Value} {p1 p2 p3 p4 p5 p6 : Prop} (h : p1 ∧ p2 ∧ p3 ∧ p4 ∧ p5 ∧ p6 ∧ Box w' G t x ∧ Box w' H u y ∧ Below B W w' ∧ Boxy w' Q q) : Box w' G t x := h.2.2.2.2.2.2.1
theorem holdG2 {W w' : World} {B G H Q : Nat} {t u q : TypeId} {x y : Array Value} {p1 p2 p3 p4 p5 p6 : Prop} (h : p1 ∧ p2 ∧ p3 ∧ p4 ∧ p5 ∧ p6 ∧ Box w' G t x ∧ Box w' H u y ∧ Below B W w' ∧ Boxy w' Q q) : Box w' H u y := h.2.2.2.2.2.2.2.1
theorem holdG3 {W w' : World} {B G H Q : Nat} {t u q : TypeId} {x y : Array Value} {p1 p2 p3 p4 p5 p6 : Prop} (h : p1 ∧ p2 ∧ p3 ∧ p4 ∧ p5 ∧ p6 ∧ Box w' G t x ∧ Box w' H u y ∧ Below B W w' ∧ Boxy w' Q q) : Below B W w' := h.2.2.2.2.2.2.2.2.1
theorem holdG4 {W w' : World} {B G H Q : Nat} {t u q : TypeId} {x y : Array Value} {p1 p2 p3 p4 p5 p6 : Prop} (h : p1 ∧ p2 ∧ p3 ∧ p4 ∧ p5 ∧ p6 ∧ Box w' G t x ∧ Box w' H u y ∧ Below B W w' ∧ Boxy w' Q q) : Boxy w' Q q := h.2.2.2.2.2.2.2.2.2

end Go.Proofs.YtlfghhmphgidjaaGreatDoor
/-
  The model's AddRat and SubRat, whatever the two Rats.
-/
namespace Go.Proofs.YtlfghhmphgidjaaGreatDoor
open Go.RowKit Num

theorem opRes_shape (b1 : Bool) (x1 y1 : ByteArray) (b2 : Bool) (x2 y2 : ByteArray) (o : Bool × Nat × Nat) : ∃ b x y c, opRes b1 x1 y1 b2 x2 y2 o = .tuple #[.agg #[.bool b, .string x, .string y], .bool c] := by
  unfold opRes
  split
  · exact ratRes_shape _ _ _
  · exact ⟨_, _, _, _, rfl⟩

theorem ln_num2 {s t : ByteArray} (hs : isNum s = true) (ht : isNum t = true) : ln 10000 (numOf s * numOf t) ≤ 274877906944 :=
  Nat.le_trans (ln_mul 10000 _ _ (by omega)) (by have := num_lt_room hs; have := num_lt_room ht; omega)

theorem addO_low (b1 : Bool) (n1 d1 : Nat) (b2 : Bool) (n2 d2 : Nat) (p1 : 0 < d1) (p2 : 0 < d2) (hS : ln 10000 (n1 * d2 + n2 * d1) ≤ 549755813888) (hD : ln 10000 (d1 * d2) ≤ 549755813888) :
    LowQ (addO b1 n1 d1 b2 n2 d2).1 (addO b1 n1 d1 b2 n2 d2).2.1 (addO b1 n1 d1 b2 n2 d2).2.2 := by
  have hp := Nat.mul_pos p1 p2
  unfold addO
  refine ⟨low_pos hp, low_gcd hp, fun h => ?_, ?_, ?_⟩
  · simp only [Bool.and_eq_true, decide_eq_true_eq] at h
    exact low_num h.2 hp
  · have hc := sgn_combo b1 b2 (n1 * d2) (n2 * d1)
    refine Nat.le_trans (ln_mono 10000 _ _ (by omega) (Nat.div_le_self _ _)) (Nat.le_trans (ln_mono 10000 _ _ (by omega) ?_) hS)
    rcases hc with h | h | h <;> omega
  · exact Nat.le_trans (ln_mono 10000 _ _ (by omega) (Nat.div_le_self _ _)) hD

/-- The model's sum comes to the same. -/
theorem addQ_as (b1 b2 : Bool) (v1 v2 v3 v4 : Value) (n1 d1 n2 d2 : Nat) (w : World) (h1 : Nums 3 .i64 10000 w v1 n1) (h2 : Nums 3 .i64 10000 w v2 d1) (h3 : Nums 3 .i64 10000 w v3 n2) (h4 : Nums 3 .i64 10000 w v4 d2)
    (l1 : ln 10000 n1 ≤ 137438953472) (l2 : ln 10000 d1 ≤ 137438953472) (l3 : ln 10000 n2 ≤ 137438953472) (l4 : ln 10000 d2 ≤ 137438953472) (p1 : 0 < d1) (p2 : 0 < d2) :
    Calls Tryz.prog 84 #[.agg #[.bool b1, v1, v2], .agg #[.bool b2, v3, v4]] w fun e w' => (∃ v, e = .returned v ∧ IsQ w' v (addO b1 n1 d1 b2 n2 d2).1 (addO b1 n1 d1 b2 n2 d2).2.1 (addO b1 n1 d1 b2 n2 d2).2.2) ∧ Below w.heap.size w w' := by
  have hr := cmp_room l1 l2 l3 l4
  have hs : (b1 = b2 ∧ (sgnSum b1 (n1 * d2) b2 (n2 * d1)).1 = b1 ∧ (sgnSum b1 (n1 * d2) b2 (n2 * d1)).2 = n1 * d2 + n2 * d1) ∨ (b1 = !b2 ∧ n2 * d1 ≤ n1 * d2 ∧ (sgnSum b1 (n1 * d2) b2 (n2 * d1)).1 = b1 ∧ (sgnSum b1 (n1 * d2) b2 (n2 * d1)).2 = n1 * d2 - n2 * d1) ∨ (b1 = !b2 ∧ n1 * d2 < n2 * d1 ∧ (sgnSum b1 (n1 * d2) b2 (n2 * d1)).1 = b2 ∧ (sgnSum b1 (n1 * d2) b2 (n2 * d1)).2 = n2 * d1 - n1 * d2) := by
    unfold sgnSum
    by_cases h : b1 = b2
    · left; rw [if_pos h]; exact ⟨h, rfl, rfl⟩
    · have hn : b1 = !b2 := by cases b1 <;> cases b2 <;> simp_all
      rw [if_neg h]
      by_cases hl : n1 * d2 < n2 * d1
      · right; right; rw [if_pos hl]; exact ⟨hn, hl, rfl, rfl⟩
      · right; left; rw [if_neg hl]; exact ⟨hn, by omega, rfl, rfl⟩
  exact addQ_any b1 b2 v1 v2 v3 v4 n1 d1 n2 d2 w h1 h2 h3 h4 (by omega) (by omega) (by omega) (by omega) _ _ _ rfl rfl rfl (Nat.mul_pos p1 p2) hr.1 hr.2 _ _ hs

theorem specAdd_any (b1 : Bool) (x1 y1 : ByteArray) (b2 : Bool) (x2 y2 : ByteArray) (w : World) (hx1 : x1.size ≤ 9223372036854775807) (hy1 : y1.size ≤ 9223372036854775807) (hx2 : x2.size ≤ 9223372036854775807) (hy2 : y2.size ≤ 9223372036854775807) :
    Calls Tryz.prog 59 #[.agg #[.bool b1, .string x1, .string y1], .agg #[.bool b2, .string x2, .string y2]] w fun e w' => e = .returned (opRes b1 x1 y1 b2 x2 y2 (addO b1 (numOf x1) (numOf y1) b2 (numOf x2) (numOf y2))) ∧ Below w.heap.size w w' := by
  unfold opRes
  by_cases h : (validR b1 x1 y1 && validR b2 x2 y2) = true
  · rw [if_pos h]
    have h' : validR b1 x1 y1 = true ∧ validR b2 x2 y2 = true := by simpa using h
    obtain ⟨m1, m2, m3, m4⟩ := validR_num h'.1
    obtain ⟨m5, m6, m7, m8⟩ := validR_num h'.2
    have hr := cmp_room (num_lt_room m1) (num_lt_room m2) (num_lt_room m5) (num_lt_room m6)
    exact specAdd_yes b1 x1 y1 b2 x2 y2 w hx1 hy1 hx2 hy2 h'.1 h'.2 _ _ _ (addO_low _ _ _ _ _ _ (by omega) (by omega) hr.2 hr.1)
      (fun v1 v2 v3 v4 W g1 g2 g3 g4 => addQ_as b1 b2 v1 v2 v3 v4 _ _ _ _ W g1 g2 g3 g4 (num_lt_room m1) (num_lt_room m2) (num_lt_room m5) (num_lt_room m6) (by omega) (by omega))
  · rw [if_neg h]
    refine specAdd_no b1 x1 y1 b2 x2 y2 w hx1 hy1 hx2 hy2 ?_
    cases h1 : validR b1 x1 y1 <;> cases h2 : validR b2 x2 y2 <;> simp_all

end Go.Proofs.YtlfghhmphgidjaaGreatDoor
