/-
  The program's reading of a Rat, both numerals good, the denominator 0 or the number a zero that is not canonical.
-/
import Derived.Test.YtbcckgofoknmbaaDoorFracOf
import Derived.Deep.DeepCutAuto
import Derived.Deep.RegionWith
namespace Go.Proofs.YtbcckgofoknmbaaDoor
open Go.RowKit Num

set_option maxRecDepth 100000 in
set_option maxHeartbeats 1600000 in
theorem fracOf_den0 (b : Bool) (x y : ByteArray) (w : World) (hx : x.size ≤ 9223372036854775807) (hy : y.size ≤ 9223372036854775807) (hU : UnitB w) (hT : Tab64 w) (nx : isNum x = true) (ny : isNum y = true) (h : numOf y = 0) :
    Calls Tryd.prog 26 #[.agg #[.bool b, .string x, .string y]] w fun e w' => e = .returned noFrac ∧ Below w.heap.size w w' := by
  have C1 : Hid (∀ W, _) := Lib.hid fun W => numBlock_any x W hx
  have C2 : Hid (∀ W, _) := Lib.hid fun W => numBlock_any y W hy
  have hR0 := Box.new w 25 #[.bool b, .string x, .string y]
  have HR0 := Lib.hid (hR0.alloc (.cells #[.bool false, .slice none 0 0, .slice none 0 0] 43))
  have hF0 := Box.new (w.alloc (.cells #[.bool b, .string x, .string y] 25)) 43 #[.bool false, .slice none 0 0, .slice none 0 0]
  rw [show (w.alloc (.cells #[.bool b, .string x, .string y] 25)).heap.size = w.heap.size + 1 from by simp] at hF0
  have HF0 := Lib.hid hF0
  have hB0 := ((Below.refl w.heap.size w).alloc (Nat.le_refl _) (.cells #[.bool b, .string x, .string y] 25)).alloc (by simp) (.cells #[.bool false, .slice none 0 0, .slice none 0 0] 43)
  have HB0 := Lib.hid hB0
  clear hR0 hF0 hB0 hx hy
  have HU0 := Lib.hid (hU.below HB0.out)
  rw [nx] at C1
  rw [ny] at C2
  go_enter Tryd.func26, Tryd.ntmps26
  go_wp2_with fail
  refine (C1.out _).mono ?_
  rintro e w1 ⟨⟨a0, a1, a2, a3, a4, a5, a6, rfl, hda, hva⟩, hb1⟩
  have hR1 := HR0.out.below hb1 HR0.out.lt
  have hF1 := HF0.out.below hb1 HF0.out.lt
  have hB1 := HB0.out.trans (hb1.mono HB0.out.size)
  unfold blk
  have hN2 := Box.new w1 66 #[.int .u64 (a0 : Nat), .int .u64 (a1 : Nat), .int .u64 (a2 : Nat), .int .u64 (a3 : Nat), .int .u64 (a4 : Nat), .int .u64 (a5 : Nat), .int .u64 (a6 : Nat)]
  have hR2 := hR1.alloc (.cells #[.int .u64 (a0 : Nat), .int .u64 (a1 : Nat), .int .u64 (a2 : Nat), .int .u64 (a3 : Nat), .int .u64 (a4 : Nat), .int .u64 (a5 : Nat), .int .u64 (a6 : Nat)] 66)
  have hF2 := hF1.alloc (.cells #[.int .u64 (a0 : Nat), .int .u64 (a1 : Nat), .int .u64 (a2 : Nat), .int .u64 (a3 : Nat), .int .u64 (a4 : Nat), .int .u64 (a5 : Nat), .int .u64 (a6 : Nat)] 66)
  have hB2 := hB1.alloc hB1.size (.cells #[.int .u64 (a0 : Nat), .int .u64 (a1 : Nat), .int .u64 (a2 : Nat), .int .u64 (a3 : Nat), .int .u64 (a4 : Nat), .int .u64 (a5 : Nat), .int .u64 (a6 : Nat)] 66)
  obtain ⟨r0, r1, r2, _, _, _⟩ := hR2.three
  have HR2 := Lib.hid hR2
  have HF2 := Lib.hid hF2
  have HB2 := Lib.hid hB2
  have HN2 := Lib.hid hN2
  have Hda := Lib.hid hda
  have Hva := Lib.hid (hva (by simp))
  have hgn1 : w.heap.size + 2 ≤ w1.heap.size := by have := hb1.size; simp at this; omega
  clear hR1 hF1 hB1 hR2 hF2 hB2 hN2 hb1 hda hva
  go_wp2_with fail
  refine (C2.out _).mono ?_
  rintro e w2 ⟨⟨c0, c1, c2, c3, c4, c5, c6, rfl, hdc, hvc⟩, hb2⟩
  have hF3 := HF2.out.below hb2 HF2.out.lt
  have hR3 := HR2.out.below hb2 HR2.out.lt
  have hN3 := HN2.out.below hb2 HN2.out.lt
  have hB3 := HB2.out.trans (hb2.mono HB2.out.size)
  unfold blk
  have hF4 := hF3.alloc (.cells #[.int .u64 (c0 : Nat), .int .u64 (c1 : Nat), .int .u64 (c2 : Nat), .int .u64 (c3 : Nat), .int .u64 (c4 : Nat), .int .u64 (c5 : Nat), .int .u64 (c6 : Nat)] 66)
  have hR4 := hR3.alloc (.cells #[.int .u64 (c0 : Nat), .int .u64 (c1 : Nat), .int .u64 (c2 : Nat), .int .u64 (c3 : Nat), .int .u64 (c4 : Nat), .int .u64 (c5 : Nat), .int .u64 (c6 : Nat)] 66)
  have hN4 := hN3.alloc (.cells #[.int .u64 (c0 : Nat), .int .u64 (c1 : Nat), .int .u64 (c2 : Nat), .int .u64 (c3 : Nat), .int .u64 (c4 : Nat), .int .u64 (c5 : Nat), .int .u64 (c6 : Nat)] 66)
  have hD4 := Box.new w2 66 #[.int .u64 (c0 : Nat), .int .u64 (c1 : Nat), .int .u64 (c2 : Nat), .int .u64 (c3 : Nat), .int .u64 (c4 : Nat), .int .u64 (c5 : Nat), .int .u64 (c6 : Nat)]
  have hB4 := hB3.alloc hB3.size (.cells #[.int .u64 (c0 : Nat), .int .u64 (c1 : Nat), .int .u64 (c2 : Nat), .int .u64 (c3 : Nat), .int .u64 (c4 : Nat), .int .u64 (c5 : Nat), .int .u64 (c6 : Nat)] 66)
  have hgd1 : w1.heap.size < w2.heap.size := hN3.lt
  go_upto_region 3 with fail
  obtain ⟨gn, hgn⟩ : ∃ g, g = w1.heap.size := ⟨_, rfl⟩
  rw [← hgn] at hN4 hgd1 hgn1 ⊢
  obtain ⟨gd, hgd⟩ : ∃ g, g = w2.heap.size := ⟨_, rfl⟩
  rw [← hgd] at hD4 hgd1 ⊢
  obtain ⟨W4, hW4⟩ : ∃ W, W = w2.alloc (.cells #[.int .u64 (c0 : Nat), .int .u64 (c1 : Nat), .int .u64 (c2 : Nat), .int .u64 (c3 : Nat), .int .u64 (c4 : Nat), .int .u64 (c5 : Nat), .int .u64 (c6 : Nat)] 66) := ⟨_, rfl⟩
  rw [← hW4] at hF4 hR4 hN4 hD4 hB4 ⊢
  have hU4 := hU.below hB4
  have hT4 := hT.below hB4
  have HF4 := Lib.hid hF4
  have HR4 := Lib.hid hR4
  have HN4 := Lib.hid hN4
  have HD4 := Lib.hid hD4
  have HB4 := Lib.hid hB4
  have HU4 := Lib.hid hU4
  have HT4 := Lib.hid hT4
  have Hdc := Lib.hid hdc
  have Hvc := Lib.hid (hvc (by simp))
  have hsz4 : W4.heap.size = gd + 1 := by rw [hW4, hgd]; simp
  have Hsz4 := Lib.hid hsz4
  clear hF3 hR3 hN3 hB3 hF4 hR4 hN4 hD4 hB4 hU4 hT4 hb2 hdc hvc hW4 hgd hsz4 r0 r1 r2 hgn
  obtain ⟨r0, r1, r2, _, _, _⟩ := HR4.out.three
  obtain ⟨s0, s1, s2, f0, f1, f2⟩ := HF4.out.three
  obtain ⟨n0, n1, n2, n3, n4, n5, n6⟩ := HN4.out.seven
  obtain ⟨d0, d1, d2, d3, d4, d5, d6⟩ := HD4.out.seven
  obtain ⟨u0, u1, u2, u3, u4, u5, u6⟩ := HU4.out.seven
  have zd : Dig WB [0, 0, 0, 0, 0, 0, 0] := by intro x hx; simp at hx; rw [hx]; unfold WB; omega
  have od : Dig WB [1, 0, 0, 0, 0, 0, 0] := by intro x hx; simp at hx; rcases hx with rfl | rfl <;> (unfold WB; omega)
  have zv : val WB [0, 0, 0, 0, 0, 0, 0] = 0 := by simp [val]
  have ov : val WB [1, 0, 0, 0, 0, 0, 0] = 1 := by simp [val]
  have q1 : ∀ W, (binOp .eql 66 (.agg #[.int .u64 (c0 : Nat), .int .u64 (c1 : Nat), .int .u64 (c2 : Nat), .int .u64 (c3 : Nat), .int .u64 (c4 : Nat), .int .u64 (c5 : Nat), .int .u64 (c6 : Nat)]) (.agg #[.int .u64 0, .int .u64 0, .int .u64 0, .int .u64 0, .int .u64 0, .int .u64 0, .int .u64 0])).run Tryd.prog W = .ok (.bool (decide (numOf y = 0))) W := fun W => blk_eql c0 c1 c2 c3 c4 c5 c6 0 0 0 0 0 0 0 _ (by rw [blk_val _ _ Hdc.out zd rfl, Hvc.out, zv]) W
  have q2 : ∀ W, (binOp .eql 66 (.agg #[.int .u64 (a0 : Nat), .int .u64 (a1 : Nat), .int .u64 (a2 : Nat), .int .u64 (a3 : Nat), .int .u64 (a4 : Nat), .int .u64 (a5 : Nat), .int .u64 (a6 : Nat)]) (.agg #[.int .u64 0, .int .u64 0, .int .u64 0, .int .u64 0, .int .u64 0, .int .u64 0, .int .u64 0])).run Tryd.prog W = .ok (.bool (decide (numOf x = 0))) W := fun W => blk_eql a0 a1 a2 a3 a4 a5 a6 0 0 0 0 0 0 0 _ (by rw [blk_val _ _ Hda.out zd rfl, Hva.out, zv]) W
  have q3 : ∀ W, (binOp .neq 66 (.agg #[.int .u64 (c0 : Nat), .int .u64 (c1 : Nat), .int .u64 (c2 : Nat), .int .u64 (c3 : Nat), .int .u64 (c4 : Nat), .int .u64 (c5 : Nat), .int .u64 (c6 : Nat)]) (.agg #[.int .u64 1, .int .u64 0, .int .u64 0, .int .u64 0, .int .u64 0, .int .u64 0, .int .u64 0])).run Tryd.prog W = .ok (.bool !(decide (numOf y = 1))) W := fun W => blk_neq c0 c1 c2 c3 c4 c5 c6 1 0 0 0 0 0 0 _ (by rw [blk_val _ _ Hdc.out od rfl, Hvc.out, ov]) W
  clear zd od zv ov
  have e1 : decide (numOf y = 0) = true := decide_eq_true h
  rw [e1] at q1
  clear q2 q3
  go_wp2_with fail
  obtain ⟨k0, k1, k2⟩ := HF4.out.put3 (.bool false) (.slice none 0 0) (.slice none 0 0)
  exact bodyPost_ret (v := noFrac) (by simp [results, Tryd.results26, go_sem, k0, k1, k2, noFrac]; done) rfl ⟨rfl, below_put3 HB4.out (Nat.le_succ _) _ _ _⟩

set_option maxRecDepth 100000 in
set_option maxHeartbeats 1600000 in
theorem fracOf_zero (b : Bool) (x y : ByteArray) (w : World) (hx : x.size ≤ 9223372036854775807) (hy : y.size ≤ 9223372036854775807) (hU : UnitB w) (hT : Tab64 w) (nx : isNum x = true) (ny : isNum y = true) (h0 : numOf y ≠ 0) (h : numOf x = 0) (h1 : b = true ∨ numOf y ≠ 1) :
    Calls Tryd.prog 26 #[.agg #[.bool b, .string x, .string y]] w fun e w' => e = .returned noFrac ∧ Below w.heap.size w w' := by
  have C1 : Hid (∀ W, _) := Lib.hid fun W => numBlock_any x W hx
  have C2 : Hid (∀ W, _) := Lib.hid fun W => numBlock_any y W hy
  have hR0 := Box.new w 25 #[.bool b, .string x, .string y]
  have HR0 := Lib.hid (hR0.alloc (.cells #[.bool false, .slice none 0 0, .slice none 0 0] 43))
  have hF0 := Box.new (w.alloc (.cells #[.bool b, .string x, .string y] 25)) 43 #[.bool false, .slice none 0 0, .slice none 0 0]
  rw [show (w.alloc (.cells #[.bool b, .string x, .string y] 25)).heap.size = w.heap.size + 1 from by simp] at hF0
  have HF0 := Lib.hid hF0
  have hB0 := ((Below.refl w.heap.size w).alloc (Nat.le_refl _) (.cells #[.bool b, .string x, .string y] 25)).alloc (by simp) (.cells #[.bool false, .slice none 0 0, .slice none 0 0] 43)
  have HB0 := Lib.hid hB0
  clear hR0 hF0 hB0 hx hy
  have HU0 := Lib.hid (hU.below HB0.out)
  rw [nx] at C1
  rw [ny] at C2
  go_enter Tryd.func26, Tryd.ntmps26
  go_wp2_with fail
  refine (C1.out _).mono ?_
  rintro e w1 ⟨⟨a0, a1, a2, a3, a4, a5, a6, rfl, hda, hva⟩, hb1⟩
  have hR1 := HR0.out.below hb1 HR0.out.lt
  have hF1 := HF0.out.below hb1 HF0.out.lt
  have hB1 := HB0.out.trans (hb1.mono HB0.out.size)
  unfold blk
  have hN2 := Box.new w1 66 #[.int .u64 (a0 : Nat), .int .u64 (a1 : Nat), .int .u64 (a2 : Nat), .int .u64 (a3 : Nat), .int .u64 (a4 : Nat), .int .u64 (a5 : Nat), .int .u64 (a6 : Nat)]
  have hR2 := hR1.alloc (.cells #[.int .u64 (a0 : Nat), .int .u64 (a1 : Nat), .int .u64 (a2 : Nat), .int .u64 (a3 : Nat), .int .u64 (a4 : Nat), .int .u64 (a5 : Nat), .int .u64 (a6 : Nat)] 66)
  have hF2 := hF1.alloc (.cells #[.int .u64 (a0 : Nat), .int .u64 (a1 : Nat), .int .u64 (a2 : Nat), .int .u64 (a3 : Nat), .int .u64 (a4 : Nat), .int .u64 (a5 : Nat), .int .u64 (a6 : Nat)] 66)
  have hB2 := hB1.alloc hB1.size (.cells #[.int .u64 (a0 : Nat), .int .u64 (a1 : Nat), .int .u64 (a2 : Nat), .int .u64 (a3 : Nat), .int .u64 (a4 : Nat), .int .u64 (a5 : Nat), .int .u64 (a6 : Nat)] 66)
  obtain ⟨r0, r1, r2, _, _, _⟩ := hR2.three
  have HR2 := Lib.hid hR2
  have HF2 := Lib.hid hF2
  have HB2 := Lib.hid hB2
  have HN2 := Lib.hid hN2
  have Hda := Lib.hid hda
  have Hva := Lib.hid (hva (by simp))
  have hgn1 : w.heap.size + 2 ≤ w1.heap.size := by have := hb1.size; simp at this; omega
  clear hR1 hF1 hB1 hR2 hF2 hB2 hN2 hb1 hda hva
  go_wp2_with fail
  refine (C2.out _).mono ?_
  rintro e w2 ⟨⟨c0, c1, c2, c3, c4, c5, c6, rfl, hdc, hvc⟩, hb2⟩
  have hF3 := HF2.out.below hb2 HF2.out.lt
  have hR3 := HR2.out.below hb2 HR2.out.lt
  have hN3 := HN2.out.below hb2 HN2.out.lt
  have hB3 := HB2.out.trans (hb2.mono HB2.out.size)
  unfold blk
  have hF4 := hF3.alloc (.cells #[.int .u64 (c0 : Nat), .int .u64 (c1 : Nat), .int .u64 (c2 : Nat), .int .u64 (c3 : Nat), .int .u64 (c4 : Nat), .int .u64 (c5 : Nat), .int .u64 (c6 : Nat)] 66)
  have hR4 := hR3.alloc (.cells #[.int .u64 (c0 : Nat), .int .u64 (c1 : Nat), .int .u64 (c2 : Nat), .int .u64 (c3 : Nat), .int .u64 (c4 : Nat), .int .u64 (c5 : Nat), .int .u64 (c6 : Nat)] 66)
  have hN4 := hN3.alloc (.cells #[.int .u64 (c0 : Nat), .int .u64 (c1 : Nat), .int .u64 (c2 : Nat), .int .u64 (c3 : Nat), .int .u64 (c4 : Nat), .int .u64 (c5 : Nat), .int .u64 (c6 : Nat)] 66)
  have hD4 := Box.new w2 66 #[.int .u64 (c0 : Nat), .int .u64 (c1 : Nat), .int .u64 (c2 : Nat), .int .u64 (c3 : Nat), .int .u64 (c4 : Nat), .int .u64 (c5 : Nat), .int .u64 (c6 : Nat)]
  have hB4 := hB3.alloc hB3.size (.cells #[.int .u64 (c0 : Nat), .int .u64 (c1 : Nat), .int .u64 (c2 : Nat), .int .u64 (c3 : Nat), .int .u64 (c4 : Nat), .int .u64 (c5 : Nat), .int .u64 (c6 : Nat)] 66)
  have hgd1 : w1.heap.size < w2.heap.size := hN3.lt
  go_upto_region 3 with fail
  obtain ⟨gn, hgn⟩ : ∃ g, g = w1.heap.size := ⟨_, rfl⟩
  rw [← hgn] at hN4 hgd1 hgn1 ⊢
  obtain ⟨gd, hgd⟩ : ∃ g, g = w2.heap.size := ⟨_, rfl⟩
  rw [← hgd] at hD4 hgd1 ⊢
  obtain ⟨W4, hW4⟩ : ∃ W, W = w2.alloc (.cells #[.int .u64 (c0 : Nat), .int .u64 (c1 : Nat), .int .u64 (c2 : Nat), .int .u64 (c3 : Nat), .int .u64 (c4 : Nat), .int .u64 (c5 : Nat), .int .u64 (c6 : Nat)] 66) := ⟨_, rfl⟩
  rw [← hW4] at hF4 hR4 hN4 hD4 hB4 ⊢
  have hU4 := hU.below hB4
  have hT4 := hT.below hB4
  have HF4 := Lib.hid hF4
  have HR4 := Lib.hid hR4
  have HN4 := Lib.hid hN4
  have HD4 := Lib.hid hD4
  have HB4 := Lib.hid hB4
  have HU4 := Lib.hid hU4
  have HT4 := Lib.hid hT4
  have Hdc := Lib.hid hdc
  have Hvc := Lib.hid (hvc (by simp))
  have hsz4 : W4.heap.size = gd + 1 := by rw [hW4, hgd]; simp
  have Hsz4 := Lib.hid hsz4
  clear hF3 hR3 hN3 hB3 hF4 hR4 hN4 hD4 hB4 hU4 hT4 hb2 hdc hvc hW4 hgd hsz4 r0 r1 r2 hgn
  obtain ⟨r0, r1, r2, _, _, _⟩ := HR4.out.three
  obtain ⟨s0, s1, s2, f0, f1, f2⟩ := HF4.out.three
  obtain ⟨n0, n1, n2, n3, n4, n5, n6⟩ := HN4.out.seven
  obtain ⟨d0, d1, d2, d3, d4, d5, d6⟩ := HD4.out.seven
  obtain ⟨u0, u1, u2, u3, u4, u5, u6⟩ := HU4.out.seven
  have zd : Dig WB [0, 0, 0, 0, 0, 0, 0] := by intro x hx; simp at hx; rw [hx]; unfold WB; omega
  have od : Dig WB [1, 0, 0, 0, 0, 0, 0] := by intro x hx; simp at hx; rcases hx with rfl | rfl <;> (unfold WB; omega)
  have zv : val WB [0, 0, 0, 0, 0, 0, 0] = 0 := by simp [val]
  have ov : val WB [1, 0, 0, 0, 0, 0, 0] = 1 := by simp [val]
  have q1 : ∀ W, (binOp .eql 66 (.agg #[.int .u64 (c0 : Nat), .int .u64 (c1 : Nat), .int .u64 (c2 : Nat), .int .u64 (c3 : Nat), .int .u64 (c4 : Nat), .int .u64 (c5 : Nat), .int .u64 (c6 : Nat)]) (.agg #[.int .u64 0, .int .u64 0, .int .u64 0, .int .u64 0, .int .u64 0, .int .u64 0, .int .u64 0])).run Tryd.prog W = .ok (.bool (decide (numOf y = 0))) W := fun W => blk_eql c0 c1 c2 c3 c4 c5 c6 0 0 0 0 0 0 0 _ (by rw [blk_val _ _ Hdc.out zd rfl, Hvc.out, zv]) W
  have q2 : ∀ W, (binOp .eql 66 (.agg #[.int .u64 (a0 : Nat), .int .u64 (a1 : Nat), .int .u64 (a2 : Nat), .int .u64 (a3 : Nat), .int .u64 (a4 : Nat), .int .u64 (a5 : Nat), .int .u64 (a6 : Nat)]) (.agg #[.int .u64 0, .int .u64 0, .int .u64 0, .int .u64 0, .int .u64 0, .int .u64 0, .int .u64 0])).run Tryd.prog W = .ok (.bool (decide (numOf x = 0))) W := fun W => blk_eql a0 a1 a2 a3 a4 a5 a6 0 0 0 0 0 0 0 _ (by rw [blk_val _ _ Hda.out zd rfl, Hva.out, zv]) W
  have q3 : ∀ W, (binOp .neq 66 (.agg #[.int .u64 (c0 : Nat), .int .u64 (c1 : Nat), .int .u64 (c2 : Nat), .int .u64 (c3 : Nat), .int .u64 (c4 : Nat), .int .u64 (c5 : Nat), .int .u64 (c6 : Nat)]) (.agg #[.int .u64 1, .int .u64 0, .int .u64 0, .int .u64 0, .int .u64 0, .int .u64 0, .int .u64 0])).run Tryd.prog W = .ok (.bool !(decide (numOf y = 1))) W := fun W => blk_neq c0 c1 c2 c3 c4 c5 c6 1 0 0 0 0 0 0 _ (by rw [blk_val _ _ Hdc.out od rfl, Hvc.out, ov]) W
  clear zd od zv ov
  have e1 : decide (numOf y = 0) = false := decide_eq_false h0
  have e2 : decide (numOf x = 0) = true := decide_eq_true h
  rw [e1] at q1
  rw [e2] at q2
  cases b with
  | true =>
    clear q3
    go_wp2_with fail
    obtain ⟨k0, k1, k2⟩ := HF4.out.put3 (.bool false) (.slice none 0 0) (.slice none 0 0)
    exact bodyPost_ret (v := noFrac) (by simp [results, Tryd.results26, go_sem, k0, k1, k2, noFrac]; done) rfl ⟨rfl, below_put3 HB4.out (Nat.le_succ _) _ _ _⟩
  | false =>
    have e3 : decide (numOf y = 1) = false := decide_eq_false (by rcases h1 with h1 | h1; cases h1; exact h1)
    rw [e3] at q3
    go_wp2_with fail
    obtain ⟨k0, k1, k2⟩ := HF4.out.put3 (.bool false) (.slice none 0 0) (.slice none 0 0)
    exact bodyPost_ret (v := noFrac) (by simp [results, Tryd.results26, go_sem, k0, k1, k2, noFrac]; done) rfl ⟨rfl, below_put3 HB4.out (Nat.le_succ _) _ _ _⟩

end Go.Proofs.YtbcckgofoknmbaaDoor
