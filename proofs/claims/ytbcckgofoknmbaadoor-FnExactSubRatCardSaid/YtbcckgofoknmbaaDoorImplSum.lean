/-
  Several texts in one: ImplAdd, NegF, ImplSub, SpecAny.
-/
import Derived.Test.YtbcckgofoknmbaaDoorAddFO
import Derived.Test.YtbcckgofoknmbaaDoorDecAll
import Derived.Test.YtbcckgofoknmbaaDoorSpecOps
/-
  The program's AddRat.
-/
namespace Go.Proofs.YtbcckgofoknmbaaDoor
open Go.RowKit Num

/-- The program's fraction as a Rat. -/
theorem ratF_all (neg : Bool) (vn vd : Value) (n d : Nat) (w : World) (hw : TabP w) (hn : Nums 64 .u64 WB w vn n) (hd : Nums 64 .u64 WB w vd d) :
    Calls Tryd.prog 15 #[.agg #[.bool neg, vn, vd]] w fun e w' => e = .returned (ratRes neg n d) ∧ Below w.heap.size w w' := by
  by_cases h : 7 < ln WB n ∨ 7 < ln WB d
  · exact ratF_wide neg vn vd n d w hn hd h
  · exact ratF_narrow neg vn vd n d TabP staysP w hw (decOf_seven n (by omega)) (decOf_seven d (by omega)) hn hd (by omega) (by omega)

/-- What an operation on two Rats hands back. -/
def opRes (b1 : Bool) (x1 y1 : ByteArray) (b2 : Bool) (x2 y2 : ByteArray) (o : Bool × Nat × Nat) : Value :=
  if (validR b1 x1 y1 && validR b2 x2 y2) = true then ratRes o.1 o.2.1 o.2.2 else noRat

theorem validR_gcd {b : Bool} {x y : ByteArray} (h : validR b x y = true) : Nat.gcd (numOf x) (numOf y) = 1 := by
  unfold validR at h
  simp only [Bool.and_eq_true, decide_eq_true_eq] at h
  exact h.2

theorem ln_capS {s : ByteArray} (h : isNum s = true) : ln WB (numOf s) ≤ 7 := ln_le_of_lt WB _ 7 (by unfold WB; omega) (Nat.lt_of_lt_of_le (numOf_lt h) pow120)

end Go.Proofs.YtbcckgofoknmbaaDoor
/-
  The program's negative of a fraction.
-/
namespace Go.Proofs.YtbcckgofoknmbaaDoor
open Go.RowKit Num

theorem isZero_any (b : Bool) (v1 v2 : Value) (n d : Nat) (w : World) (h1 : Nums 64 .u64 WB w v1 n) (h2 : Nums 64 .u64 WB w v2 d) :
    Calls Tryd.prog 48 #[.agg #[.bool b, v1, v2]] w fun e w' => e = .returned (.bool (decide (n = 0))) ∧ Below w.heap.size w w' := by
  obtain ⟨A1, c1, rfl, _, _, _⟩ := RowF.open h1
  obtain ⟨A2, c2, rfl, _, _, _⟩ := RowF.open h2
  have hv : decide (n = 0) = ((ln WB n : Int) == 0) := by
    by_cases h : n = 0
    · subst h; rw [ln_zero]; rfl
    · have := lnz (b := WB) WB_two (by omega : 0 < n)
      rw [decide_eq_false h]; symm; simp; omega
  rw [hv]
  clear hv h1 h2
  go_enter Tryd.func48, Tryd.ntmps48
  go_wp2_with fail
  go_ret
  exact ⟨rfl, (Below.refl _ w).alloc (Nat.le_refl _) _⟩

set_option maxRecDepth 100000 in
set_option maxHeartbeats 1600000 in
theorem negF_any (b : Bool) (v1 v2 : Value) (n d : Nat) (w : World) (h1 : Nums 64 .u64 WB w v1 n) (h2 : Nums 64 .u64 WB w v2 d) :
    Calls Tryd.prog 29 #[.agg #[.bool b, v1, v2]] w fun e w' => (∃ v, e = .returned v ∧ IsF w' v (!b && decide (0 < n)) n d) ∧ Below w.heap.size w w' := by
  have Z : Hid (∀ W, Below w.heap.size w W → _) := Lib.hid fun W hW => isZero_any b v1 v2 n d W (h1.below hW (Nat.le_refl _)) (h2.below hW (Nat.le_refl _))
  obtain ⟨z, hz⟩ : ∃ z, z = decide (n = 0) := ⟨_, rfl⟩
  have hz' : decide (0 < n) = !z := by
    rw [hz]; by_cases h : n = 0
    · simp [h]
    · rw [decide_eq_false h, decide_eq_true (by omega)]; rfl
  rw [hz']
  rw [← hz] at Z
  clear hz hz'
  obtain ⟨A1, c1, rfl, _, _, _⟩ := RowF.open h1
  obtain ⟨A2, c2, rfl, _, _, _⟩ := RowF.open h2
  have hA := (Box.new w 43 #[.bool b, .slice A1 (ln WB n) c1, .slice A2 (ln WB d) c2]).alloc (.cells #[.bool false, .slice none 0 0, .slice none 0 0] 43)
  have hR := Box.new (w.alloc (.cells #[.bool b, .slice A1 (ln WB n) c1, .slice A2 (ln WB d) c2] 43)) 43 #[.bool false, .slice none 0 0, .slice none 0 0]
  rw [show (w.alloc (.cells #[.bool b, .slice A1 (ln WB n) c1, .slice A2 (ln WB d) c2] 43)).heap.size = w.heap.size + 1 by simp] at hR
  have hB := ((Below.refl w.heap.size w).alloc (Nat.le_refl _) (.cells #[.bool b, .slice A1 (ln WB n) c1, .slice A2 (ln WB d) c2] 43)).alloc (by simp) (.cells #[.bool false, .slice none 0 0, .slice none 0 0] 43)
  have HB := Lib.hid hB
  have H1 := Lib.hid h1
  have H2 := Lib.hid h2
  clear hB h1 h2
  cases b with
  | true =>
    go_enter Tryd.func29, Tryd.ntmps29
    go_wp2_with fail
    have hR2 := Box.new (w.alloc (.cells #[.bool false, .slice A1 (ln WB n) c1, .slice A2 (ln WB d) c2] 43)) 43 #[.bool false, .slice A1 (ln WB n) c1, .slice A2 (ln WB d) c2]
    rw [show (w.alloc (.cells #[.bool false, .slice A1 (ln WB n) c1, .slice A2 (ln WB d) c2] 43)).heap.size = w.heap.size + 1 by simp] at hR2
    obtain ⟨m0, m1, m2, _, _, _⟩ := hR2.three
    have hB2 := ((Below.refl w.heap.size w).alloc (Nat.le_refl _) (.cells #[.bool false, .slice A1 (ln WB n) c1, .slice A2 (ln WB d) c2] 43)).alloc (by simp) (.cells #[.bool false, .slice A1 (ln WB n) c1, .slice A2 (ln WB d) c2] 43)
    refine bodyPost_ret (v := .agg #[.bool false, .slice A1 (ln WB n) c1, .slice A2 (ln WB d) c2]) (by simp [results, Tryd.results29, go_sem, m0, m1, m2]; done) rfl ?_
    exact ⟨⟨_, rfl, ⟨_, _, rfl, H1.out.below hB2 (Nat.le_refl _), H2.out.below hB2 (Nat.le_refl _)⟩⟩, hB2⟩
  | false =>
    go_enter Tryd.func29, Tryd.ntmps29
    go_wp2_with (go_at_call 48; refine (Z.out _ HB.out).mono ?_; rintro e w1 ⟨rfl, hb1⟩; replace hA := hA.below hb1 hA.lt; replace hR := hR.below hb1 hR.lt; replace HB := Lib.hid (HB.out.trans (hb1.mono HB.out.size)); obtain ⟨r0, r1, r2, f0, f1, f2⟩ := hA.three; have hR2 := hR.other (by omega : w.heap.size ≠ w.heap.size + 1) 0 (.bool (!z)); obtain ⟨z0, z1, z2, g0, g1, g2⟩ := hR2.three; clear hb1)
    obtain ⟨m0, m1, m2⟩ := hR2.put3 (.bool (!z)) (.slice A1 (ln WB n) c1) (.slice A2 (ln WB d) c2)
    have q1 := (H1.out.below HB.out (Nat.le_refl _)).setCell (p := ⟨w.heap.size, 0, none⟩) ((H1.out.below HB.out (Nat.le_refl _)).apart hA (by decide)) (.bool (!z))
    have q2 := (H2.out.below HB.out (Nat.le_refl _)).setCell (p := ⟨w.heap.size, 0, none⟩) ((H2.out.below HB.out (Nat.le_refl _)).apart hA (by decide)) (.bool (!z))
    refine bodyPost_ret (v := .agg #[.bool (!z), .slice A1 (ln WB n) c1, .slice A2 (ln WB d) c2]) (by simp [results, Tryd.results29, go_sem, m0, m1, m2]; done) rfl ?_
    exact ⟨⟨_, rfl, ⟨_, _, rfl, Nums.put3 q1 hR2 (by decide) _ _ _, Nums.put3 q2 hR2 (by decide) _ _ _⟩⟩, below_put3 (HB.out.setCell (p := ⟨w.heap.size, 0, none⟩) (Nat.le_refl _) _) (by omega) _ _ _⟩

end Go.Proofs.YtbcckgofoknmbaaDoor
/-
  The program's SubRat.
-/
namespace Go.Proofs.YtbcckgofoknmbaaDoor
open Go.RowKit Num

theorem holdG {W w' : World} {B G H Q : Nat} {t u q : TypeId} {a b c d e f : Value} (h : Box w' G t #[a, b, c]) (k : Box w' H u #[d, e, f]) (hb : Below B W w') (hq : Boxy w' Q q) :
    w'.cell? ⟨G, 0, none⟩ = some a ∧ w'.cell? ⟨G, 1, none⟩ = some b ∧ w'.cell? ⟨G, 2, none⟩ = some c ∧ w'.cell? ⟨H, 0, none⟩ = some d ∧ w'.cell? ⟨H, 1, none⟩ = some e ∧ w'.cell? ⟨H, 2, none⟩ = some f ∧ Box w' G t #[a, b, c] ∧ Box w' H u #[d, e, f] ∧ Below B W w' ∧ Boxy w' Q q := by
  obtain ⟨h1, h2, h3, _⟩ := h.three
  obtain ⟨k1, k2, k3, _⟩ := k.three
  exact ⟨h1, h2, h3, k1, k2, k3, h, k, hb, hq⟩
theorem holdG1 {W w' : World} {B G H Q : Nat} {t u q : TypeId} {x y : Array Value} {p1 p2 p3 p4 p5 p6 : Prop} (h : p1 ∧ p2 ∧ p3 ∧ p4 ∧ p5 ∧ p6 ∧ Box w' G t x ∧ Box w' H u y ∧ Below B W w' ∧ Boxy w' Q q) : Box w' G t x := h.2.2.2.2.2.2.1
theorem holdG2 {W w' : World} {B G H Q : Nat} {t u q : TypeId} {x y : Array Value} {p1 p2 p3 p4 p5 p6 : Prop} (h : p1 ∧ p2 ∧ p3 ∧ p4 ∧ p5 ∧ p6 ∧ Box w' G t x ∧ Box w' H u y ∧ Below B W w' ∧ Boxy w' Q q) : Box w' H u y := h.2.2.2.2.2.2.2.1
theorem holdG3 {W w' : World} {B G H Q : Nat} {t u q : TypeId} {x y : Array Value} {p1 p2 p3 p4 p5 p6 : Prop} (h : p1 ∧ p2 ∧ p3 ∧ p4 ∧ p5 ∧ p6 ∧ Box w' G t x ∧ Box w' H u y ∧ Below B W w' ∧ Boxy w' Q q) : Below B W w' := h.2.2.2.2.2.2.2.2.1
theorem holdG4 {W w' : World} {B G H Q : Nat} {t u q : TypeId} {x y : Array Value} {p1 p2 p3 p4 p5 p6 : Prop} (h : p1 ∧ p2 ∧ p3 ∧ p4 ∧ p5 ∧ p6 ∧ Box w' G t x ∧ Box w' H u y ∧ Below B W w' ∧ Boxy w' Q q) : Boxy w' Q q := h.2.2.2.2.2.2.2.2.2

set_option maxRecDepth 100000 in
set_option maxHeartbeats 1600000 in
theorem subF_any (b1 b2 : Bool) (v1 v2 v3 v4 : Value) (n1 d1 n2 d2 : Nat) (w : World) (h1 : Nums 64 .u64 WB w v1 n1) (h2 : Nums 64 .u64 WB w v2 d1) (h3 : Nums 64 .u64 WB w v3 n2) (h4 : Nums 64 .u64 WB w v4 d2) (hT : Tab64 w)
    (l1 : ln WB n1 ≤ 68719476736) (l2 : ln WB d1 ≤ 68719476736) (l3 : ln WB n2 ≤ 68719476736) (l4 : ln WB d2 ≤ 68719476736) (p1 : 0 < d1) (p2 : 0 < d2) (k1 : Nat.gcd n1 d1 = 1) (k2 : Nat.gcd n2 d2 = 1) (z1 : n1 = 0 → b1 = false)
    (sg : Bool) (N D : Nat) (ho : addO b1 n1 d1 (!b2 && decide (0 < n2)) n2 d2 = (sg, N, D)) :
    Calls Tryd.prog 16 #[.agg #[.bool b1, v1, v2], .agg #[.bool b2, v3, v4]] w fun e w' => (∃ v, e = .returned v ∧ IsF w' v sg N D) ∧ Below w.heap.size w w' := by
  have CN : Hid (∀ (W : World), Below w.heap.size w W → _) := Lib.hid fun W hW => negF_any b2 v3 v4 _ _ W (h3.below hW (Nat.le_refl _)) (h4.below hW (Nat.le_refl _))
  have CA : Hid (∀ (u3 u4 : Value) (W : World), Below w.heap.size w W → Nums 64 .u64 WB W u3 n2 → Nums 64 .u64 WB W u4 d2 → _) :=
    Lib.hid fun u3 u4 W hW g3 g4 => addF_any b1 (!b2 && decide (0 < n2)) v1 v2 u3 u4 _ _ _ _ W (h1.below hW (Nat.le_refl _)) (h2.below hW (Nat.le_refl _)) g3 g4 (hT.below hW) l1 l2 l3 l4 p1 p2 k1 k2 z1 (fun h => by rw [h]; simp) sg N D ho
  obtain ⟨nb, hnb⟩ : ∃ nb, nb = (!b2 && decide (0 < n2)) := ⟨_, rfl⟩
  rw [← hnb] at CN CA
  clear hnb ho l1 l2 l3 l4 p1 p2 k1 k2 z1
  obtain ⟨A1, k1, rfl, _, _, _⟩ := RowF.open h1
  obtain ⟨A2, k2, rfl, _, _, _⟩ := RowF.open h2
  obtain ⟨A3, k3, rfl, _, _, _⟩ := RowF.open h3
  obtain ⟨A4, k4, rfl, _, _, _⟩ := RowF.open h4
  have e0 : ∀ (W : World) (o : Obj), (W.alloc o).heap.size = W.heap.size + 1 := fun W o => by simp
  have hA := ((Box.new w 43 #[.bool b1, .slice A1 (ln WB n1) k1, .slice A2 (ln WB d1) k2]).alloc (.cells #[.bool b2, .slice A3 (ln WB n2) k3, .slice A4 (ln WB d2) k4] 43)).alloc (.cells #[.bool false, .slice none 0 0, .slice none 0 0] 43)
  have hQ := (Box.new (w.alloc (.cells #[.bool b1, .slice A1 (ln WB n1) k1, .slice A2 (ln WB d1) k2] 43)) 43 #[.bool b2, .slice A3 (ln WB n2) k3, .slice A4 (ln WB d2) k4]).alloc (.cells #[.bool false, .slice none 0 0, .slice none 0 0] 43)
  have hR := Box.new ((w.alloc (.cells #[.bool b1, .slice A1 (ln WB n1) k1, .slice A2 (ln WB d1) k2] 43)).alloc (.cells #[.bool b2, .slice A3 (ln WB n2) k3, .slice A4 (ln WB d2) k4] 43)) 43 #[.bool false, .slice none 0 0, .slice none 0 0]
  rw [e0] at hQ
  rw [e0, e0] at hR
  have hB := (((Below.refl w.heap.size w).alloc (Nat.le_refl _) (.cells #[.bool b1, .slice A1 (ln WB n1) k1, .slice A2 (ln WB d1) k2] 43)).alloc (by simp) (.cells #[.bool b2, .slice A3 (ln WB n2) k3, .slice A4 (ln WB d2) k4] 43)).alloc (by simp <;> omega) (.cells #[.bool false, .slice none 0 0, .slice none 0 0] 43)
  clear e0 h1 h2 h3 h4 hT
  go_enter Tryd.func16, Tryd.ntmps16
  go_upto_region 1 with fail
  obtain ⟨W, hW⟩ : ∃ W, W = ((w.alloc (.cells #[.bool b1, .slice A1 (ln WB n1) k1, .slice A2 (ln WB d1) k2] 43)).alloc (.cells #[.bool b2, .slice A3 (ln WB n2) k3, .slice A4 (ln WB d2) k4] 43)).alloc (.cells #[.bool false, .slice none 0 0, .slice none 0 0] 43) := ⟨_, rfl⟩
  rw [← hW] at hA hQ hR hB ⊢
  clear hW
  have HB1 := Lib.hid hB
  have hsz : w.heap.size + 1 + 1 ≤ W.heap.size := by have := hR.lt; omega
  have hq0 : Boxy W (w.heap.size + 1 + 1) 43 := ⟨_, _, _, hR⟩
  have ne1 : w.heap.size + 1 + 1 ≠ w.heap.size := by omega
  have ne2 : w.heap.size + 1 + 1 ≠ w.heap.size + 1 := by omega
  clear hB hR
  obtain ⟨q0, q1, q2, _⟩ := hA.three
  obtain ⟨u0, u1, u2, _⟩ := hQ.three
  go_region_held3 (fun w' => w'.cell? ⟨w.heap.size, 0, none⟩ = some (.bool b1) ∧ w'.cell? ⟨w.heap.size, 1, none⟩ = some (.slice A1 (ln WB n1) k1) ∧ w'.cell? ⟨w.heap.size, 2, none⟩ = some (.slice A2 (ln WB d1) k2) ∧ w'.cell? ⟨w.heap.size + 1, 0, none⟩ = some (.bool b2) ∧ w'.cell? ⟨w.heap.size + 1, 1, none⟩ = some (.slice A3 (ln WB n2) k3) ∧ w'.cell? ⟨w.heap.size + 1, 2, none⟩ = some (.slice A4 (ln WB d2) k4) ∧ Box w' w.heap.size 43 #[.bool b1, .slice A1 (ln WB n1) k1, .slice A2 (ln WB d1) k2] ∧ Box w' (w.heap.size + 1) 43 #[.bool b2, .slice A3 (ln WB n2) k3, .slice A4 (ln WB d2) k4] ∧ Below (w.heap.size + 1 + 1) W w' ∧ Boxy w' (w.heap.size + 1 + 1) 43)
    ((refine holdG ?_ ?_ ?_ ?_ <;> first | exact hA | exact hQ | exact (Below.refl _ W).drew | exact hq0.below (Below.refl _ W).drew | (refine Box.below (holdG1 (by assumption)) ?_ (holdG1 (by assumption)).lt; assumption) | (refine Box.below (holdG2 (by assumption)) ?_ (holdG2 (by assumption)).lt; assumption) | (refine stepB hsz (holdG3 (by assumption)) ?_; assumption) | (refine Boxy.below (holdG4 (by assumption)) ?_; assumption) | exact ((((holdG1 (by assumption)).other ne1 0 _).other ne1 1 _).other ne1 2 _) | exact ((((holdG2 (by assumption)).other ne2 0 _).other ne2 1 _).other ne2 2 _) | exact below_put3 (holdG3 (by assumption)) (Nat.le_refl _) _ _ _ | exact Boxy.put (holdG4 (by assumption)) _ _ _))
    (first
      | (go_at_call 29; refine (CN.out _ (HB1.out.drew)).mono ?_; rintro e w4 ⟨⟨v, rfl, vn3, vd3, rfl, hn3, hd3⟩, hb4⟩; have hc4 : Below W.heap.size W w4 := below_of_drew hb4; have HB4 := Lib.hid (HB1.out.trans (hc4.mono HB1.out.size)); have Hn3 := Lib.hid hn3; have Hd3 := Lib.hid hd3; clear hn3 hd3 hc4)
      | (go_at_call 28; refine (CA.out _ _ _ HB4.out Hn3.out Hd3.out).mono ?_; rintro e w5 ⟨⟨v, rfl, vN, vD, rfl, hN, hD⟩, hb5⟩; obtain ⟨q0, q1, q2, hy⟩ := Boxy.below (holdG4 (by assumption)) hb5; obtain ⟨z0, z1, z2, f0, f1, f2⟩ := hy.three; have HB5 := Lib.hid (HB4.out.trans (hb5.mono HB4.out.size)); have HN := Lib.hid hN; have HD := Lib.hid hD; obtain ⟨AN, kN, rfl, _, _, _⟩ := RowF.open hN; obtain ⟨AD, kD, rfl, _, _, _⟩ := RowF.open hD; clear hN hD))
  all_goals go_wp2_with fail
  all_goals obtain ⟨m0, m1, m2⟩ := hy.put3 (.bool sg) (.slice AN (ln WB N) kN) (.slice AD (ln WB D) kD)
  all_goals refine bodyPost_ret (v := .agg #[.bool sg, .slice AN (ln WB N) kN, .slice AD (ln WB D) kD]) (by simp [results, Tryd.results16, go_sem, m0, m1, m2]; done) rfl ?_
  all_goals exact ⟨⟨_, rfl, ⟨_, _, rfl, Nums.put3 HN.out hy (by decide) _ _ _, Nums.put3 HD.out hy (by decide) _ _ _⟩⟩, below_put3 HB5.out (by omega) _ _ _⟩

set_option maxRecDepth 100000 in
set_option maxHeartbeats 1600000 in
theorem implSub_any (b1 : Bool) (x1 y1 : ByteArray) (b2 : Bool) (x2 y2 : ByteArray) (w : World) (hx1 : x1.size ≤ 9223372036854775807) (hy1 : y1.size ≤ 9223372036854775807) (hx2 : x2.size ≤ 9223372036854775807) (hy2 : y2.size ≤ 9223372036854775807) (hU : UnitB w) (hT : Tab64 w) (hP : TabP w) :
    Calls Tryd.prog 7 #[.agg #[.bool b1, .string x1, .string y1], .agg #[.bool b2, .string x2, .string y2]] w fun e w' => e = .returned (opRes b1 x1 y1 b2 x2 y2 (addO b1 (numOf x1) (numOf y1) (!b2 && decide (0 < numOf x2)) (numOf x2) (numOf y2))) ∧ Below w.heap.size w w' := by
  have C1 : Hid (∀ W, Below w.heap.size w W → _) := Lib.hid fun W hW => pair_any b1 x1 y1 b2 x2 y2 W hx1 hy1 hx2 hy2 (hU.below hW) (hT.below hW)
  obtain ⟨r, hr⟩ : ∃ r, r = (validR b1 x1 y1 && validR b2 x2 y2) := ⟨_, rfl⟩
  unfold opRes
  rw [← hr] at C1 ⊢
  have hB := (((Below.refl w.heap.size w).alloc (Nat.le_refl _) (.cells #[.bool b1, .string x1, .string y1] 25)).alloc (by simp) (.cells #[.bool b2, .string x2, .string y2] 25)).alloc (by simp; omega) (.cells #[.bool false, .string ⟨#[]⟩, .string ⟨#[]⟩] 25)
  have hR := Box.new ((w.alloc (.cells #[.bool b1, .string x1, .string y1] 25)).alloc (.cells #[.bool b2, .string x2, .string y2] 25)) 25 #[.bool false, .string ⟨#[]⟩, .string ⟨#[]⟩]
  have e0 : ∀ (W : World) (o : Obj), (W.alloc o).heap.size = W.heap.size + 1 := fun W o => by simp
  rw [e0, e0] at hR
  clear e0
  have HB := Lib.hid hB
  have HT := Lib.hid hT
  have HP := Lib.hid hP
  clear hB hU hT hP hx1 hy1 hx2 hy2
  cases r with
  | false =>
    rw [if_neg (by decide)]
    clear hr
    go_enter Tryd.func7, Tryd.ntmps7
    go_wp2_with (go_at_call 14; refine (C1.out _ HB.out).mono ?_; rintro e w1 ⟨⟨c1, A1, l1, k1, A2, l2, k2, c2, A3, l3, k3, A4, l4, k4, rfl, hn⟩, hb1⟩; clear hn; have HB1 := Lib.hid (HB.out.trans (hb1.mono HB.out.size)); replace hR := (hR.below hb1 hR.lt); clear hb1; have hz := (hR.alloc (.cells #[.bool c1, .slice A1 l1 k1, .slice A2 l2 k2] 43)).alloc (.cells #[.bool c2, .slice A3 l3 k3, .slice A4 l4 k4] 43); obtain ⟨z0, z1, z2, f0, f1, f2⟩ := hz.three)
    obtain ⟨m0, m1, m2⟩ := hz.put3 (.bool false) (.string ⟨#[]⟩) (.string ⟨#[]⟩)
    refine bodyPost_ret (v := noRat) (by simp [results, Tryd.results7, go_sem, noRat, m0, m1, m2]; done) rfl ⟨rfl, ?_⟩
    exact below_put3 ((HB1.out.alloc HB1.out.size _).alloc (HB1.out.alloc HB1.out.size _).size _) (by omega) _ _ _
  | true =>
    obtain ⟨hv1, hv2⟩ : validR b1 x1 y1 = true ∧ validR b2 x2 y2 = true := by simpa using hr.symm
    obtain ⟨m1, m2, m3, m4⟩ := validR_num hv1
    obtain ⟨m5, m6, m7, m8⟩ := validR_num hv2
    have k1 := validR_gcd hv1
    have k2 := validR_gcd hv2
    have l1' := ln_capS m1
    have l2' := ln_capS m2
    have l3' := ln_capS m5
    have l4' := ln_capS m6
    rw [if_pos rfl]
    obtain ⟨⟨sg, N, D⟩, ho⟩ : ∃ o, addO b1 (numOf x1) (numOf y1) (!b2 && decide (0 < numOf x2)) (numOf x2) (numOf y2) = o := ⟨_, rfl⟩
    rw [ho]
    obtain ⟨rb, rx, ry, rc, hres⟩ := ratRes_shape sg N D
    rw [hres]
    have CA : Hid (∀ (v1 v2 v3 v4 : Value) (W : World), Below w.heap.size w W → Nums 64 .u64 WB W v1 (numOf x1) → Nums 64 .u64 WB W v2 (numOf y1) → Nums 64 .u64 WB W v3 (numOf x2) → Nums 64 .u64 WB W v4 (numOf y2) → _) :=
      Lib.hid fun v1 v2 v3 v4 W hW g1 g2 g3 g4 => subF_any b1 b2 v1 v2 v3 v4 _ _ _ _ W g1 g2 g3 g4 (HT.out.below hW) (by omega) (by omega) (by omega) (by omega) (by omega) (by omega) k1 k2 m4 sg N D ho
    have CR : Hid (∀ (vn vd : Value) (W : World), Below w.heap.size w W → Nums 64 .u64 WB W vn N → Nums 64 .u64 WB W vd D → Calls Tryd.prog 15 #[.agg #[.bool sg, vn, vd]] W fun e w' => e = .returned (.tuple #[.agg #[.bool rb, .string rx, .string ry], .bool rc]) ∧ Below W.heap.size W w') := Lib.hid fun vn vd W hW g1 g2 => by
      rw [← hres]; exact ratF_all sg vn vd N D W (staysP.below _ _ HP.out hW) g1 g2
    clear hr hv1 hv2 m1 m2 m3 m4 m5 m6 m7 m8 k1 k2 l1' l2' l3' l4' ho hres
    go_enter Tryd.func7, Tryd.ntmps7
    go_wp2_with (first
      | (go_at_call 14; refine (C1.out _ HB.out).mono ?_; rintro e w1 ⟨⟨c1, A1, l1, k1, A2, l2, k2, c2, A3, l3, k3, A4, l4, k4, rfl, hn⟩, hb1⟩; obtain ⟨⟨e1, p1, p2⟩, e2, p3, p4⟩ := hn rfl; subst e1 e2; have HB1 := Lib.hid ((((HB.out.trans (hb1.mono HB.out.size))).alloc (HB.out.trans (hb1.mono HB.out.size)).size (.cells #[.bool c1, .slice A1 l1 k1, .slice A2 l2 k2] 43)).alloc (((HB.out.trans (hb1.mono HB.out.size))).alloc (HB.out.trans (hb1.mono HB.out.size)).size _).size (.cells #[.bool c2, .slice A3 l3 k3, .slice A4 l4 k4] 43)); have hz := ((hR.below hb1 hR.lt).alloc (.cells #[.bool c1, .slice A1 l1 k1, .slice A2 l2 k2] 43)).alloc (.cells #[.bool c2, .slice A3 l3 k3, .slice A4 l4 k4] 43); have q := ((Below.refl w1.heap.size w1).alloc (Nat.le_refl _) (.cells #[.bool c1, .slice A1 l1 k1, .slice A2 l2 k2] 43)).alloc (by simp) (.cells #[.bool c2, .slice A3 l3 k3, .slice A4 l4 k4] 43); have Hq := Lib.hid (And.intro (p1.below q (Nat.le_refl _)) (And.intro (p2.below q (Nat.le_refl _)) (And.intro (p3.below q (Nat.le_refl _)) (p4.below q (Nat.le_refl _))))); clear hb1 hn p1 p2 p3 p4 q)
      | (go_at_call 16; refine (CA.out _ _ _ _ _ HB1.out Hq.out.1 Hq.out.2.1 Hq.out.2.2.1 Hq.out.2.2.2).mono ?_; rintro e w5 ⟨⟨v, rfl, vN, vD, rfl, hN, hD⟩, hb5⟩; replace hz := hz.below hb5 hz.lt; have HB5 := Lib.hid (HB1.out.trans (hb5.mono HB1.out.size)); have HN := Lib.hid hN; have HD := Lib.hid hD; clear hb5 hN hD)
      | (go_at_call 15; refine (CR.out vN vD _ HB5.out HN.out HD.out).mono ?_; rintro e w6 ⟨rfl, hb6⟩; replace hz := hz.below hb6 hz.lt; obtain ⟨z0, z1, z2, f0, f1, f2⟩ := hz.three; have HB6 := Lib.hid (HB5.out.trans (hb6.mono HB5.out.size)); clear hb6))
    obtain ⟨m0, m1, m2⟩ := hz.put3 (.bool rb) (.string rx) (.string ry)
    refine bodyPost_ret (v := .tuple #[.agg #[.bool rb, .string rx, .string ry], .bool rc]) (by simp [results, Tryd.results7, go_sem, m0, m1, m2]; done) rfl ⟨rfl, ?_⟩
    exact below_put3 HB6.out (by omega) _ _ _

end Go.Proofs.YtbcckgofoknmbaaDoor
/-
  The model's AddRat and SubRat, whatever the two Rats.
-/
namespace Go.Proofs.YtbcckgofoknmbaaDoor
open Go.RowKit Num

theorem opRes_shape (b1 : Bool) (x1 y1 : ByteArray) (b2 : Bool) (x2 y2 : ByteArray) (o : Bool × Nat × Nat) : ∃ b x y c, opRes b1 x1 y1 b2 x2 y2 o = .tuple #[.agg #[.bool b, .string x, .string y], .bool c] := by
  unfold opRes
  split
  · exact ratRes_shape _ _ _
  · exact ⟨_, _, _, _, rfl⟩

theorem ln_num2 {s t : ByteArray} (hs : isNum s = true) (ht : isNum t = true) : ln 10000 (numOf s * numOf t) ≤ 274877906944 :=
  Nat.le_trans (ln_mul 10000 _ _ (by omega)) (by have := num_lt_room hs; have := num_lt_room ht; omega)

theorem addO_low (b1 : Bool) (n1 d1 : Nat) (b2 : Bool) (n2 d2 : Nat) (p1 : 0 < d1) (p2 : 0 < d2) (hS : ln 10000 (n1 * d2 + n2 * d1) ≤ 549755813888) (hD : ln 10000 (d1 * d2) ≤ 549755813888) :
    LowQ (addO b1 n1 d1 b2 n2 d2).1 (addO b1 n1 d1 b2 n2 d2).2.1 (addO b1 n1 d1 b2 n2 d2).2.2 := by
  have hp := Nat.mul_pos p1 p2
  unfold addO
  refine ⟨low_pos hp, low_gcd hp, fun h => ?_, ?_, ?_⟩
  · simp only [Bool.and_eq_true, decide_eq_true_eq] at h
    exact low_num h.2 hp
  · have hc := sgn_combo b1 b2 (n1 * d2) (n2 * d1)
    refine Nat.le_trans (ln_mono 10000 _ _ (by omega) (Nat.div_le_self _ _)) (Nat.le_trans (ln_mono 10000 _ _ (by omega) ?_) hS)
    rcases hc with h | h | h <;> omega
  · exact Nat.le_trans (ln_mono 10000 _ _ (by omega) (Nat.div_le_self _ _)) hD

/-- The model's sum comes to the same. -/
theorem addQ_as (b1 b2 : Bool) (v1 v2 v3 v4 : Value) (n1 d1 n2 d2 : Nat) (w : World) (h1 : Nums 3 .i64 10000 w v1 n1) (h2 : Nums 3 .i64 10000 w v2 d1) (h3 : Nums 3 .i64 10000 w v3 n2) (h4 : Nums 3 .i64 10000 w v4 d2)
    (l1 : ln 10000 n1 ≤ 137438953472) (l2 : ln 10000 d1 ≤ 137438953472) (l3 : ln 10000 n2 ≤ 137438953472) (l4 : ln 10000 d2 ≤ 137438953472) (p1 : 0 < d1) (p2 : 0 < d2) :
    Calls Tryd.prog 11 #[.agg #[.bool b1, v1, v2], .agg #[.bool b2, v3, v4]] w fun e w' => (∃ v, e = .returned v ∧ IsQ w' v (addO b1 n1 d1 b2 n2 d2).1 (addO b1 n1 d1 b2 n2 d2).2.1 (addO b1 n1 d1 b2 n2 d2).2.2) ∧ Below w.heap.size w w' := by
  have hr := cmp_room l1 l2 l3 l4
  have hs : (b1 = b2 ∧ (sgnSum b1 (n1 * d2) b2 (n2 * d1)).1 = b1 ∧ (sgnSum b1 (n1 * d2) b2 (n2 * d1)).2 = n1 * d2 + n2 * d1) ∨ (b1 = !b2 ∧ n2 * d1 ≤ n1 * d2 ∧ (sgnSum b1 (n1 * d2) b2 (n2 * d1)).1 = b1 ∧ (sgnSum b1 (n1 * d2) b2 (n2 * d1)).2 = n1 * d2 - n2 * d1) ∨ (b1 = !b2 ∧ n1 * d2 < n2 * d1 ∧ (sgnSum b1 (n1 * d2) b2 (n2 * d1)).1 = b2 ∧ (sgnSum b1 (n1 * d2) b2 (n2 * d1)).2 = n2 * d1 - n1 * d2) := by
    unfold sgnSum
    by_cases h : b1 = b2
    · left; rw [if_pos h]; exact ⟨h, rfl, rfl⟩
    · have hn : b1 = !b2 := by cases b1 <;> cases b2 <;> simp_all
      rw [if_neg h]
      by_cases hl : n1 * d2 < n2 * d1
      · right; right; rw [if_pos hl]; exact ⟨hn, hl, rfl, rfl⟩
      · right; left; rw [if_neg hl]; exact ⟨hn, by omega, rfl, rfl⟩
  exact addQ_any b1 b2 v1 v2 v3 v4 n1 d1 n2 d2 w h1 h2 h3 h4 (by omega) (by omega) (by omega) (by omega) _ _ _ rfl rfl rfl (Nat.mul_pos p1 p2) hr.1 hr.2 _ _ hs

theorem specSub_any (b1 : Bool) (x1 y1 : ByteArray) (b2 : Bool) (x2 y2 : ByteArray) (w : World) (hx1 : x1.size ≤ 9223372036854775807) (hy1 : y1.size ≤ 9223372036854775807) (hx2 : x2.size ≤ 9223372036854775807) (hy2 : y2.size ≤ 9223372036854775807) :
    Calls Tryd.prog 5 #[.agg #[.bool b1, .string x1, .string y1], .agg #[.bool b2, .string x2, .string y2]] w fun e w' => e = .returned (opRes b1 x1 y1 b2 x2 y2 (addO b1 (numOf x1) (numOf y1) (!b2 && decide (0 < numOf x2)) (numOf x2) (numOf y2))) ∧ Below w.heap.size w w' := by
  unfold opRes
  by_cases h : (validR b1 x1 y1 && validR b2 x2 y2) = true
  · rw [if_pos h]
    have h' : validR b1 x1 y1 = true ∧ validR b2 x2 y2 = true := by simpa using h
    obtain ⟨m1, m2, m3, m4⟩ := validR_num h'.1
    obtain ⟨m5, m6, m7, m8⟩ := validR_num h'.2
    have hr := cmp_room (num_lt_room m1) (num_lt_room m2) (num_lt_room m5) (num_lt_room m6)
    exact specSub_yes b1 x1 y1 b2 x2 y2 w hx1 hy1 hx2 hy2 h'.1 h'.2 _ _ _ (addO_low _ _ _ _ _ _ (by omega) (by omega) hr.2 hr.1)
      (fun v1 v2 v3 v4 W g1 g2 g3 g4 => addQ_as b1 _ v1 v2 v3 v4 _ _ _ _ W g1 g2 g3 g4 (num_lt_room m1) (num_lt_room m2) (num_lt_room m5) (num_lt_room m6) (by omega) (by omega))
  · rw [if_neg h]
    refine specSub_no b1 x1 y1 b2 x2 y2 w hx1 hy1 hx2 hy2 ?_
    cases h1 : validR b1 x1 y1 <;> cases h2 : validR b2 x2 y2 <;> simp_all

end Go.Proofs.YtbcckgofoknmbaaDoor
