/-
  The program's reading of a Rat, both numerals good and the number no odd zero.
-/
import Derived.Test.YtbcckgofoknmbaaDoorFracOfB
namespace Go.Proofs.YtbcckgofoknmbaaDoor
open Go.RowKit Num

set_option maxRecDepth 100000 in
set_option maxHeartbeats 1000000 in
theorem fracOf_gen (b : Bool) (x y : ByteArray) (w : World) (hx : x.size ≤ 9223372036854775807) (hy : y.size ≤ 9223372036854775807) (hU : UnitB w) (hT : Tab64 w) (nx : isNum x = true) (ny : isNum y = true) (h0 : numOf y ≠ 0) (h1 : numOf x ≠ 0) (h2 : numOf y ≠ 1) (r : Bool) (hg : r = true ↔ Nat.gcd (numOf x) (numOf y) = 1) :
    Calls Tryd.prog 26 #[.agg #[.bool b, .string x, .string y]] w fun e w' => FracPost w b (numOf x) (numOf y) r e w' := by
  have C1 : Hid (∀ W, _) := Lib.hid fun W => numBlock_any x W hx
  have C2 : Hid (∀ W, _) := Lib.hid fun W => numBlock_any y W hy
  have hR0 := Box.new w 25 #[.bool b, .string x, .string y]
  have HR0 := Lib.hid (hR0.alloc (.cells #[.bool false, .slice none 0 0, .slice none 0 0] 43))
  have hF0 := Box.new (w.alloc (.cells #[.bool b, .string x, .string y] 25)) 43 #[.bool false, .slice none 0 0, .slice none 0 0]
  rw [show (w.alloc (.cells #[.bool b, .string x, .string y] 25)).heap.size = w.heap.size + 1 from by simp] at hF0
  have HF0 := Lib.hid hF0
  have hB0 := ((Below.refl w.heap.size w).alloc (Nat.le_refl _) (.cells #[.bool b, .string x, .string y] 25)).alloc (by simp) (.cells #[.bool false, .slice none 0 0, .slice none 0 0] 43)
  have HB0 := Lib.hid hB0
  clear hR0 hF0 hB0 hx hy
  have HU0 := Lib.hid (hU.below HB0.out)
  rw [nx] at C1
  rw [ny] at C2
  go_enter Tryd.func26, Tryd.ntmps26
  go_wp2_with fail
  refine (C1.out _).mono ?_
  rintro e w1 ⟨⟨a0, a1, a2, a3, a4, a5, a6, rfl, hda, hva⟩, hb1⟩
  have hR1 := HR0.out.below hb1 HR0.out.lt
  have hF1 := HF0.out.below hb1 HF0.out.lt
  have hB1 := HB0.out.trans (hb1.mono HB0.out.size)
  unfold blk
  have hN2 := Box.new w1 66 #[.int .u64 (a0 : Nat), .int .u64 (a1 : Nat), .int .u64 (a2 : Nat), .int .u64 (a3 : Nat), .int .u64 (a4 : Nat), .int .u64 (a5 : Nat), .int .u64 (a6 : Nat)]
  have hR2 := hR1.alloc (.cells #[.int .u64 (a0 : Nat), .int .u64 (a1 : Nat), .int .u64 (a2 : Nat), .int .u64 (a3 : Nat), .int .u64 (a4 : Nat), .int .u64 (a5 : Nat), .int .u64 (a6 : Nat)] 66)
  have hF2 := hF1.alloc (.cells #[.int .u64 (a0 : Nat), .int .u64 (a1 : Nat), .int .u64 (a2 : Nat), .int .u64 (a3 : Nat), .int .u64 (a4 : Nat), .int .u64 (a5 : Nat), .int .u64 (a6 : Nat)] 66)
  have hB2 := hB1.alloc hB1.size (.cells #[.int .u64 (a0 : Nat), .int .u64 (a1 : Nat), .int .u64 (a2 : Nat), .int .u64 (a3 : Nat), .int .u64 (a4 : Nat), .int .u64 (a5 : Nat), .int .u64 (a6 : Nat)] 66)
  obtain ⟨r0, r1, r2, _, _, _⟩ := hR2.three
  have HR2 := Lib.hid hR2
  have HF2 := Lib.hid hF2
  have HB2 := Lib.hid hB2
  have HN2 := Lib.hid hN2
  have Hda := Lib.hid hda
  have Hva := Lib.hid (hva (by simp))
  have hgn1 : w.heap.size + 2 ≤ w1.heap.size := by have := hb1.size; simp at this; omega
  clear hR1 hF1 hB1 hR2 hF2 hB2 hN2 hb1 hda hva
  go_wp2_with fail
  refine (C2.out _).mono ?_
  rintro e w2 ⟨⟨c0, c1, c2, c3, c4, c5, c6, rfl, hdc, hvc⟩, hb2⟩
  have hF3 := HF2.out.below hb2 HF2.out.lt
  have hR3 := HR2.out.below hb2 HR2.out.lt
  have hN3 := HN2.out.below hb2 HN2.out.lt
  have hB3 := HB2.out.trans (hb2.mono HB2.out.size)
  unfold blk
  have hF4 := hF3.alloc (.cells #[.int .u64 (c0 : Nat), .int .u64 (c1 : Nat), .int .u64 (c2 : Nat), .int .u64 (c3 : Nat), .int .u64 (c4 : Nat), .int .u64 (c5 : Nat), .int .u64 (c6 : Nat)] 66)
  have hR4 := hR3.alloc (.cells #[.int .u64 (c0 : Nat), .int .u64 (c1 : Nat), .int .u64 (c2 : Nat), .int .u64 (c3 : Nat), .int .u64 (c4 : Nat), .int .u64 (c5 : Nat), .int .u64 (c6 : Nat)] 66)
  have hN4 := hN3.alloc (.cells #[.int .u64 (c0 : Nat), .int .u64 (c1 : Nat), .int .u64 (c2 : Nat), .int .u64 (c3 : Nat), .int .u64 (c4 : Nat), .int .u64 (c5 : Nat), .int .u64 (c6 : Nat)] 66)
  have hD4 := Box.new w2 66 #[.int .u64 (c0 : Nat), .int .u64 (c1 : Nat), .int .u64 (c2 : Nat), .int .u64 (c3 : Nat), .int .u64 (c4 : Nat), .int .u64 (c5 : Nat), .int .u64 (c6 : Nat)]
  have hB4 := hB3.alloc hB3.size (.cells #[.int .u64 (c0 : Nat), .int .u64 (c1 : Nat), .int .u64 (c2 : Nat), .int .u64 (c3 : Nat), .int .u64 (c4 : Nat), .int .u64 (c5 : Nat), .int .u64 (c6 : Nat)] 66)
  have hgd1 : w1.heap.size < w2.heap.size := hN3.lt
  go_upto_region 3 with fail
  obtain ⟨gn, hgn⟩ : ∃ g, g = w1.heap.size := ⟨_, rfl⟩
  rw [← hgn] at hN4 hgd1 hgn1 ⊢
  obtain ⟨gd, hgd⟩ : ∃ g, g = w2.heap.size := ⟨_, rfl⟩
  rw [← hgd] at hD4 hgd1 ⊢
  obtain ⟨W4, hW4⟩ : ∃ W, W = w2.alloc (.cells #[.int .u64 (c0 : Nat), .int .u64 (c1 : Nat), .int .u64 (c2 : Nat), .int .u64 (c3 : Nat), .int .u64 (c4 : Nat), .int .u64 (c5 : Nat), .int .u64 (c6 : Nat)] 66) := ⟨_, rfl⟩
  rw [← hW4] at hF4 hR4 hN4 hD4 hB4 ⊢
  have hU4 := hU.below hB4
  have hT4 := hT.below hB4
  have HF4 := Lib.hid hF4
  have HR4 := Lib.hid hR4
  have HN4 := Lib.hid hN4
  have HD4 := Lib.hid hD4
  have HB4 := Lib.hid hB4
  have HU4 := Lib.hid hU4
  have HT4 := Lib.hid hT4
  have Hdc := Lib.hid hdc
  have Hvc := Lib.hid (hvc (by simp))
  have hsz4 : W4.heap.size = gd + 1 := by rw [hW4, hgd]; simp
  have Hsz4 := Lib.hid hsz4
  clear hF3 hR3 hN3 hB3 hF4 hR4 hN4 hD4 hB4 hU4 hT4 hb2 hdc hvc hW4 hgd hsz4 r0 r1 r2 hgn
  obtain ⟨r0, r1, r2, _, _, _⟩ := HR4.out.three
  obtain ⟨s0, s1, s2, f0, f1, f2⟩ := HF4.out.three
  obtain ⟨n0, n1, n2, n3, n4, n5, n6⟩ := HN4.out.seven
  obtain ⟨d0, d1, d2, d3, d4, d5, d6⟩ := HD4.out.seven
  obtain ⟨u0, u1, u2, u3, u4, u5, u6⟩ := HU4.out.seven
  have zd : Dig WB [0, 0, 0, 0, 0, 0, 0] := by intro x hx; simp at hx; rw [hx]; unfold WB; omega
  have od : Dig WB [1, 0, 0, 0, 0, 0, 0] := by intro x hx; simp at hx; rcases hx with rfl | rfl <;> (unfold WB; omega)
  have zv : val WB [0, 0, 0, 0, 0, 0, 0] = 0 := by simp [val]
  have ov : val WB [1, 0, 0, 0, 0, 0, 0] = 1 := by simp [val]
  have q1 : ∀ W, (binOp .eql 66 (.agg #[.int .u64 (c0 : Nat), .int .u64 (c1 : Nat), .int .u64 (c2 : Nat), .int .u64 (c3 : Nat), .int .u64 (c4 : Nat), .int .u64 (c5 : Nat), .int .u64 (c6 : Nat)]) (.agg #[.int .u64 0, .int .u64 0, .int .u64 0, .int .u64 0, .int .u64 0, .int .u64 0, .int .u64 0])).run Tryd.prog W = .ok (.bool (decide (numOf y = 0))) W := fun W => blk_eql c0 c1 c2 c3 c4 c5 c6 0 0 0 0 0 0 0 _ (by rw [blk_val _ _ Hdc.out zd rfl, Hvc.out, zv]) W
  have q2 : ∀ W, (binOp .eql 66 (.agg #[.int .u64 (a0 : Nat), .int .u64 (a1 : Nat), .int .u64 (a2 : Nat), .int .u64 (a3 : Nat), .int .u64 (a4 : Nat), .int .u64 (a5 : Nat), .int .u64 (a6 : Nat)]) (.agg #[.int .u64 0, .int .u64 0, .int .u64 0, .int .u64 0, .int .u64 0, .int .u64 0, .int .u64 0])).run Tryd.prog W = .ok (.bool (decide (numOf x = 0))) W := fun W => blk_eql a0 a1 a2 a3 a4 a5 a6 0 0 0 0 0 0 0 _ (by rw [blk_val _ _ Hda.out zd rfl, Hva.out, zv]) W
  have q3 : ∀ W, (binOp .neq 66 (.agg #[.int .u64 (c0 : Nat), .int .u64 (c1 : Nat), .int .u64 (c2 : Nat), .int .u64 (c3 : Nat), .int .u64 (c4 : Nat), .int .u64 (c5 : Nat), .int .u64 (c6 : Nat)]) (.agg #[.int .u64 1, .int .u64 0, .int .u64 0, .int .u64 0, .int .u64 0, .int .u64 0, .int .u64 0])).run Tryd.prog W = .ok (.bool !(decide (numOf y = 1))) W := fun W => blk_neq c0 c1 c2 c3 c4 c5 c6 1 0 0 0 0 0 0 _ (by rw [blk_val _ _ Hdc.out od rfl, Hvc.out, ov]) W
  clear zd od zv ov
  have e1 : decide (numOf y = 0) = false := decide_eq_false h0
  rw [e1] at q1
  have e2 : decide (numOf x = 0) = false := decide_eq_false h1
  rw [e2] at q2
  have e3 : decide (numOf y = 1) = false := decide_eq_false h2
  rw [e3] at q3
  clear e2 e3 h1 h2
  have hxl : ln WB (numOf x) ≤ 549755813888 := Nat.le_trans (ln_le_of_lt WB _ 7 WB_two (Nat.lt_of_lt_of_le (numOf_lt nx) pow120)) (by omega)
  have hyl : ln WB (numOf y) ≤ 549755813888 := Nat.le_trans (ln_le_of_lt WB _ 7 WB_two (Nat.lt_of_lt_of_le (numOf_lt ny) pow120)) (by omega)
  have N1 : Hid (∀ W, _) := Lib.hid fun W => natural_any a0 a1 a2 a3 a4 a5 a6 W Hda.out
  have N2 : Hid (∀ W, _) := Lib.hid fun W => natural_any c0 c1 c2 c3 c4 c5 c6 W Hdc.out
  rw [Hva.out] at N1
  rw [Hvc.out] at N2
  unfold blk at N1 N2
  have H0 := Lib.hid h0
  clear e1 nx ny h0
  have hlt1 : gd < W4.heap.size := HD4.out.lt
  have hlt2 : gn < W4.heap.size := HN4.out.lt
  have hlt3 : w.heap.size + 1 < W4.heap.size := HF4.out.lt
  have hlt4 : w.heap.size < W4.heap.size := HR4.out.lt
  go_upto_region 7 with fail
  go_cut [8] (fun s8 wx => ∃ (H : Nat) (vn vd : Value), s8 = .pointer (some ⟨H, 0, none⟩) ∧ Box wx H 43 #[.bool b, vn, vd] ∧ Nums 64 .u64 WB wx vn (numOf x) ∧ Nums 64 .u64 WB wx vd (numOf y) ∧ Below W4.heap.size W4 wx ∧ W4.heap.size ≤ H)
  case first =>
    clear q1 q2 q3 u0 u1 u2 u3 u4 u5 u6 s0 s1 s2 f0 f1 f2 n0 n1 n2 n3 n4 n5 n6 d0 d1 d2 d3 d4 d5 d6 r0 r1 r2 HF4 HR0 HF0 HB0 HU0 HR2 HF2 HN2 HB2 HU4 HT4 HB4
    go_region_held3 (fun w' => w'.cell? ⟨w.heap.size, 0, none⟩ = some (.bool b) ∧ w'.cell? ⟨gn, 0, none⟩ = some (.int .u64 (a0 : Nat)) ∧ w'.cell? ⟨gn, 1, none⟩ = some (.int .u64 (a1 : Nat)) ∧ w'.cell? ⟨gn, 2, none⟩ = some (.int .u64 (a2 : Nat)) ∧ w'.cell? ⟨gn, 3, none⟩ = some (.int .u64 (a3 : Nat)) ∧ w'.cell? ⟨gn, 4, none⟩ = some (.int .u64 (a4 : Nat)) ∧ w'.cell? ⟨gn, 5, none⟩ = some (.int .u64 (a5 : Nat)) ∧ w'.cell? ⟨gn, 6, none⟩ = some (.int .u64 (a6 : Nat)) ∧ w'.cell? ⟨gd, 0, none⟩ = some (.int .u64 (c0 : Nat)) ∧ w'.cell? ⟨gd, 1, none⟩ = some (.int .u64 (c1 : Nat)) ∧ w'.cell? ⟨gd, 2, none⟩ = some (.int .u64 (c2 : Nat)) ∧ w'.cell? ⟨gd, 3, none⟩ = some (.int .u64 (c3 : Nat)) ∧ w'.cell? ⟨gd, 4, none⟩ = some (.int .u64 (c4 : Nat)) ∧ w'.cell? ⟨gd, 5, none⟩ = some (.int .u64 (c5 : Nat)) ∧ w'.cell? ⟨gd, 6, none⟩ = some (.int .u64 (c6 : Nat)) ∧ Below W4.heap.size W4 w')
      ((refine hold15 HR4.out HN4.out HD4.out ?_; first | exact (Below.refl _ W4).drew | (refine below_step (hold15_below (by assumption)) ?_; assumption) | (refine below_new (hold15_below (by assumption)) _) | (refine below_realloc _ (hold15_below (by assumption)) ?_; omega) | (refine below_put (hold15_below (by assumption)) ?_ _ _ _; omega)))
      ((go_at_call 37; first
        | ((with_reducible refine (N1.out _).mono ?_); rintro e w5 ⟨⟨v5, rfl, hv5⟩, hb5⟩; have hs5 : W4.heap.size ≤ w5.heap.size := (by first | exact hb5.size | (have h1 := hb5.size; simp at h1; omega)); (first | (have hz5 := built_drew hb5) | (have hz5 := new_kept hb5) | skip); have Hv5 := Lib.hid hv5; obtain ⟨A5, k5, rfl, _, _, _⟩ := RowF.open hv5; clear hv5; (try obtain ⟨z10, z11, z12, y10, y11, y12⟩ := hz5.three))
        | ((with_reducible refine (N2.out _).mono ?_); rintro e w6 ⟨⟨v6, rfl, hv6⟩, hb6⟩; have hs6 : w5.heap.size ≤ w6.heap.size := (by first | exact hb6.size | (have h1 := hb6.size; simp at h1; omega)); (first | (have hz6 := new_kept hb6) | (have hz6 := hz5.below hb6 hz5.lt) | skip); have Hv6 := Lib.hid hv6; obtain ⟨A6, k6, rfl, _, _, _⟩ := RowF.open hv6; clear hv6; (try obtain ⟨z20, z21, z22, y20, y21, y22⟩ := hz6.three))))
    all_goals go_wp2_with fail
    all_goals go_meet
    all_goals refine ⟨_, .slice A5 (ln WB (numOf x)) k5, .slice A6 (ln WB (numOf y)) k6, rfl, ?_, ?_, ?_, hold15_below (by assumption), ?_⟩
    all_goals first
      | exact Box.new _ _ _
      | exact (((hz6.set 0 _).set 1 _).set 2 _)
      | exact Hv6.out
      | exact Hv6.out.below ((Below.refl _ w6).alloc (Nat.le_refl _) _) (Nat.le_refl _)
      | exact Hv6.out.put3 hz6 (by decide) _ _ _
      | exact Hv5.out.below (K56 hb6) (Nat.le_refl _)
      | exact (Hv5.out.below (K56 hb6) (Nat.le_refl _)).below ((Below.refl _ w6).alloc (Nat.le_refl _) _) (Nat.le_refl _)
      | exact (Hv5.out.below (K56 hb6) (Nat.le_refl _)).put3 hz6 (by decide) _ _ _
      | exact (Hv5.out.below (K56' hb6) (Nat.le_refl _))
      | exact (Hv5.out.below (K56' hb6) (Nat.le_refl _)).put3 hz6 (by decide) _ _ _
      | exact Nat.le_refl _
      | exact hs5
      | exact Nat.le_trans hs5 hs6
  obtain ⟨H, vn, vd, rfl, hbx, hvn, hvd, hb7, hH⟩ := hcut
  obtain ⟨An, kn, rfl, _, _, _⟩ := RowF.open hvn
  obtain ⟨Ad, kd, rfl, _, _, _⟩ := RowF.open hvd
  have hF7 := HF4.out.below hb7 HF4.out.lt
  have hD7 := HD4.out.below hb7 HD4.out.lt
  have hU7 : UnitB wc := HU4.out.below hb7
  have hT7 := HT4.out.below hb7
  have hB7 := HB4.out.trans (hb7.mono HB4.out.size)
  clear n0 n1 n2 n3 n4 n5 n6 d0 d1 d2 d3 d4 d5 d6 u0 u1 u2 u3 u4 u5 u6 r0 r1 r2 s0 s1 s2 f0 f1 f2
  obtain ⟨g0, g1, g2, f0, f1, f2⟩ := hF7.three
  obtain ⟨d0, d1, d2, d3, d4, d5, d6⟩ := hD7.seven
  obtain ⟨u0, u1, u2, u3, u4, u5, u6⟩ := hU7.seven
  obtain ⟨m0, m1, m2, _, _, _⟩ := hbx.three
  have hHne : w.heap.size + 1 ≠ H := by have := HF4.out.lt; omega
  have HF7 := Lib.hid hF7
  have HT7 := Lib.hid hT7
  have HB7 := Lib.hid hB7
  have Hvn := Lib.hid hvn
  have Hvd := Lib.hid hvd
  have Hbx := Lib.hid hbx
  clear hF7 hD7 hU7 hT7 hB7 hvn hvd hb7 hbx
  obtain ⟨gg, hgg⟩ : ∃ gg, gg = Nat.gcd (numOf x) (numOf y) := ⟨_, rfl⟩
  have C5 := Lib.hid (gcdNats_any (.slice An (ln WB (numOf x)) kn) (.slice Ad (ln WB (numOf y)) kd) (numOf x) (numOf y) wc Hvn.out Hvd.out HT7.out hxl hyl)
  rw [← hgg] at C5 hg
  have Hgg := Lib.hid hgg
  have Hg := Lib.hid hg
  clear hgg hg
  go_wp2_with fail
  refine C5.out.mono ?_
  rintro e w8 ⟨⟨v8, rfl, hv8⟩, hb8⟩
  have C6 := isOneW_any v8 gg w8 hv8
  rw [show decide (gg = 1) = r from by rw [Bool.eq_iff_iff, decide_eq_true_iff]; exact Hg.out.symm] at C6
  have C6' := Lib.hid C6
  have hF8 := HF7.out.below hb8 HF7.out.lt
  have hbx8 := Hbx.out.below hb8 Hbx.out.lt
  have HF8 := Lib.hid hF8
  have HB8 := Lib.hid (HB7.out.trans (hb8.mono HB7.out.size))
  have Hvn8 := Lib.hid (Hvn.out.below hb8 (Nat.le_refl _))
  have Hvd8 := Lib.hid (Hvd.out.below hb8 (Nat.le_refl _))
  obtain ⟨e0, e1, e2, e3, e4, e5⟩ := hF8.three
  obtain ⟨m0', m1', m2', _, _, _⟩ := hbx8.three
  clear C6 hF8 hbx8 hb8 hv8
  go_wp2_with fail
  refine C6'.out.mono ?_
  rintro e w' ⟨rfl, nq, rfl⟩
  cases r with
  | true =>
    go_wp2_with fail
    obtain ⟨k0, k1, k2⟩ := (show Box (w8.drewN nq) _ _ _ from HF8.out).put3 (.bool b) (.slice An (ln WB (numOf x)) kn) (.slice Ad (ln WB (numOf y)) kd)
    refine bodyPost_ret (v := .tuple #[.agg #[.bool b, .slice An (ln WB (numOf x)) kn, .slice Ad (ln WB (numOf y)) kd], .bool true]) (by simp [results, Tryd.results26, go_sem, k0, k1, k2]; done) rfl ?_
    refine ⟨?_, below_put3 (below_drewN nq HB8.out) (Nat.le_succ _) _ _ _⟩
    rw [if_pos rfl]
    exact ⟨_, _, rfl, frac_kept (Hvn8.out.drewN' nq) (show Box (w8.drewN nq) _ _ _ from HF8.out) _ _ _, frac_kept (Hvd8.out.drewN' nq) (show Box (w8.drewN nq) _ _ _ from HF8.out) _ _ _⟩
  | false =>
    go_wp2_with fail
    obtain ⟨k0, k1, k2⟩ := (show Box (w8.drewN nq) _ _ _ from HF8.out).put3 (.bool false) (.slice none 0 0) (.slice none 0 0)
    refine bodyPost_ret (v := noFrac) (by simp [results, Tryd.results26, go_sem, k0, k1, k2, noFrac]; done) rfl ?_
    refine ⟨?_, below_put3 (below_drewN nq HB8.out) (Nat.le_succ _) _ _ _⟩
    rw [if_neg (by decide)]

end Go.Proofs.YtbcckgofoknmbaaDoor
