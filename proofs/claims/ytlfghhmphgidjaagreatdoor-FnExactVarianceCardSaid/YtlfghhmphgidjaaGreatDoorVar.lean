/-
  The variance: the mathematics, the model and the program.
-/
import Derived.Test.YtlfghhmphgidjaaGreatDoorMomP
import Derived.Test.YtlfghhmphgidjaaGreatDoorMomS
import Derived.Test.YtlfghhmphgidjaaGreatDoorExpI
import Derived.Deep.RegionHeld3
namespace Go.Proofs.YtlfghhmphgidjaaGreatDoor
open Go.RowKit Num

/-- The square of the mean. -/
def sqM (F : Nat → Int × Bool × ByteArray × ByteArray) (n : Nat) : Bool × Nat × Nat :=
  mulO (momT F false n).1 (momT F false n).2.1 (momT F false n).2.2 (momT F false n).1 (momT F false n).2.1 (momT F false n).2.2

/-- The mean square less the square of the mean. -/
def varQ (F : Nat → Int × Bool × ByteArray × ByteArray) (n : Nat) : Bool × Nat × Nat :=
  addO (momT F true n).1 (momT F true n).2.1 (momT F true n).2.2 (!(sqM F n).1 && decide (0 < (sqM F n).2.1)) (sqM F n).2.1 (sqM F n).2.2

/-- The masses sum to 1. -/
def isOne (F : Nat → Int × Bool × ByteArray × ByteArray) (n : Nat) : Bool := decide ((total F n).2.1 = (total F n).2.2)

/-- What Variance answers. -/
def varRes (F : Nat → Int × Bool × ByteArray × ByteArray) (n : Nat) : Value :=
  if (distOk F n && isOne F n) = true then ratRes (varQ F n).1 (varQ F n).2.1 (varQ F n).2.2 else noRat

theorem varRes_shape (F : Nat → Int × Bool × ByteArray × ByteArray) (n : Nat) : ∃ rb rx ry rc, varRes F n = .tuple #[.agg #[.bool rb, .string rx, .string ry], .bool rc] := by
  unfold varRes
  split
  · exact ratRes_shape _ _ _
  · exact ⟨false, ⟨#[]⟩, ⟨#[]⟩, false, rfl⟩

theorem cmp_is (N D : Nat) : (cmpR false N D false 1 1 == 0) = decide (N = D) := by
  unfold cmpR cmpI
  simp only [Bool.false_eq_true, if_false, if_true, Nat.mul_one, Nat.one_mul]
  rw [Bool.eq_iff_iff, beq_iff_eq, decide_eq_true_iff]
  split
  · omega
  · split <;> omega

theorem sqM_low {F : Nat → Int × Bool × ByteArray × ByteArray} {n : Nat} (h : ptsOk F n = true) : LowO (sqM F n) :=
  mulO_LowO _ _ _ _ _ _ (momT_low h (Nat.le_refl n)).pos (momT_low h (Nat.le_refl n)).pos

theorem sqM_ln {F : Nat → Int × Bool × ByteArray × ByteArray} {n : Nat} (h : ptsOk F n = true) (hn : n ≤ 60) :
    (ln 10000 (sqM F n).2.1 ≤ 20000 ∧ ln 10000 (sqM F n).2.2 ≤ 20000) ∧ ln WB (sqM F n).2.1 ≤ 80000 ∧ ln WB (sqM F n).2.2 ≤ 80000 := by
  obtain ⟨a1, a2⟩ := momT_ln (two := false) h (Nat.le_refl n) hn
  obtain ⟨_, b1, b2⟩ := fit_ln (momQ_FitF (two := false) h) (by omega)
  rw [show sumR (momQ F false) 0 n = momT F false n from rfl] at b1 b2
  have c1 := ln_mul 10000 (momT F false n).2.1 (momT F false n).2.1 (by omega)
  have c2 := ln_mul 10000 (momT F false n).2.2 (momT F false n).2.2 (by omega)
  have c3 := ln_mul WB (momT F false n).2.1 (momT F false n).2.1 WB_two
  have c4 := ln_mul WB (momT F false n).2.2 (momT F false n).2.2 WB_two
  have d1 := ln_mono 10000 (sqM F n).2.1 _ (by omega) (Nat.div_le_self ((momT F false n).2.1 * (momT F false n).2.1) _)
  have d2 := ln_mono 10000 (sqM F n).2.2 _ (by omega) (Nat.div_le_self ((momT F false n).2.2 * (momT F false n).2.2) _)
  have d3 := ln_mono WB (sqM F n).2.1 _ WB_two (Nat.div_le_self ((momT F false n).2.1 * (momT F false n).2.1) _)
  have d4 := ln_mono WB (sqM F n).2.2 _ WB_two (Nat.div_le_self ((momT F false n).2.2 * (momT F false n).2.2) _)
  refine ⟨⟨?_, ?_⟩, ?_, ?_⟩
  · exact Nat.le_trans d1 (by omega)
  · exact Nat.le_trans d2 (by omega)
  · exact Nat.le_trans d3 (by omega)
  · exact Nat.le_trans d4 (by omega)

theorem varQ_low {F : Nat → Int × Bool × ByteArray × ByteArray} {n : Nat} (h : ptsOk F n = true) : LowO (varQ F n) :=
  addO_LowO _ _ _ _ _ _ (momT_low h (Nat.le_refl n)).pos (sqM_low h).pos

theorem varQ_ln {F : Nat → Int × Bool × ByteArray × ByteArray} {n : Nat} (h : ptsOk F n = true) (hn : n ≤ 60) : ln 10000 (varQ F n).2.1 ≤ 100000 ∧ ln 10000 (varQ F n).2.2 ≤ 100000 := by
  obtain ⟨a1, a2⟩ := momT_ln (two := true) h (Nat.le_refl n) hn
  obtain ⟨⟨b1, b2⟩, _⟩ := sqM_ln h hn
  unfold varQ addO
  simp only
  have hs := sgn_le (momT F true n).1 ((momT F true n).2.1 * (sqM F n).2.2) (!(sqM F n).1 && decide (0 < (sqM F n).2.1)) ((sqM F n).2.1 * (momT F true n).2.2)
  have c1 := ln_mul 10000 (momT F true n).2.1 (sqM F n).2.2 (by omega)
  have c2 := ln_mul 10000 (sqM F n).2.1 (momT F true n).2.2 (by omega)
  have c3 := ln_mul 10000 (momT F true n).2.2 (sqM F n).2.2 (by omega)
  have c4 := ln_add 10000 ((momT F true n).2.1 * (sqM F n).2.2) ((sqM F n).2.1 * (momT F true n).2.2) (by omega)
  have d1 := ln_mono 10000 _ _ (by omega) hs
  constructor
  · exact Nat.le_trans (ln_mono 10000 _ _ (by omega) (Nat.div_le_self _ _)) (by omega)
  · exact Nat.le_trans (ln_mono 10000 _ _ (by omega) (Nat.div_le_self _ _)) (by omega)


/-- What the last region keeps: the distribution's and the mean's blocks, the mean's digits, the block of the result. -/
def KeepV (w w' : World) (Q : Nat) (d s u v : Value) (N D : Nat) : Prop :=
  Below w.heap.size w w' ∧ Box w' w.heap.size 32 #[d] ∧ Box w' Q 78 #[s, u, v] ∧ Nums 3 .i64 10000 w' u N ∧ Nums 3 .i64 10000 w' v D ∧ Boxy w' (w.heap.size + 1) 27

section
variable {w w1 w2 : World} {Q : Nat} {d s u v : Value} {N D : Nat}
theorem KeepV.drew (h : KeepV w w1 Q d s u v N D) : KeepV w w1.drew Q d s u v N D :=
  ⟨h.1.trans ((Below.refl w1.heap.size w1).drew.mono h.1.size), h.2.1, h.2.2.1, h.2.2.2.1, h.2.2.2.2.1, h.2.2.2.2.2⟩
theorem KeepV.step (h : KeepV w w1 Q d s u v N D) (hb : Below w1.heap.size w1 w2) : KeepV w w2 Q d s u v N D :=
  ⟨h.1.trans (hb.mono h.1.size), h.2.1.below hb h.2.1.lt, h.2.2.1.below hb h.2.2.1.lt, h.2.2.2.1.below hb (Nat.le_refl _), h.2.2.2.2.1.below hb (Nat.le_refl _), h.2.2.2.2.2.below hb⟩
theorem KeepV.put (h : KeepV w w1 Q d s u v N D) (hQ : w.heap.size + 1 < Q) (x y z : Value) : KeepV w (((w1.setCell ⟨w.heap.size + 1, 0, none⟩ x).setCell ⟨w.heap.size + 1, 1, none⟩ y).setCell ⟨w.heap.size + 1, 2, none⟩ z) Q d s u v N D := by
  obtain ⟨h1, h2, h3, h4, h5, h6⟩ := h
  obtain ⟨a, b, c, hx⟩ := h6
  exact ⟨below_put3 h1 (Nat.le_succ _) x y z, ((h2.far (Nat.succ_ne_self _) 0 x).far (Nat.succ_ne_self _) 1 y).far (Nat.succ_ne_self _) 2 z, ((h3.far (by omega) 0 x).far (by omega) 1 y).far (by omega) 2 z, Nums.put3 h4 hx (by decide) x y z, Nums.put3 h5 hx (by decide) x y z, Boxy.put ⟨a, b, c, hx⟩ x y z⟩
theorem KeepV.holds (h : KeepV w w1 Q d s u v N D) : w1.cell? ⟨w.heap.size, 0, none⟩ = some d ∧ w1.cell? ⟨Q, 0, none⟩ = some s ∧ w1.cell? ⟨Q, 1, none⟩ = some u ∧ w1.cell? ⟨Q, 2, none⟩ = some v ∧ KeepV w w1 Q d s u v N D :=
  ⟨h.2.1.cell 0, h.2.2.1.cell 0, h.2.2.1.cell 1, h.2.2.1.cell 2, h⟩
end
theorem keepV_of {w w' : World} {Q : Nat} {d s u v : Value} {N D : Nat} {p1 p2 p3 p4 : Prop} (h : p1 ∧ p2 ∧ p3 ∧ p4 ∧ KeepV w w' Q d s u v N D) : KeepV w w' Q d s u v N D := h.2.2.2.2

set_option maxRecDepth 100000 in
set_option maxHeartbeats 3200000 in
theorem varS_any (A0 : Option Addr) (n cap : Nat) (F : Nat → Int × Bool × ByteArray × ByteArray) (w : World) (hn : n ≤ 1048576) (hA : PtAt w A0 n F) (hs : ∀ j, j < n → (F j).2.2.1.size ≤ 9223372036854775807 ∧ (F j).2.2.2.size ≤ 9223372036854775807) :
    Calls Tryz.prog 43 #[.agg #[.slice A0 n cap]] w fun e w' => e = .returned (varRes F n) ∧ Below w.heap.size w w' := by
  have CV : Hid (∀ W, Below w.heap.size w W → _) := Lib.hid fun W hW => validD_any A0 n cap F W hn (hA.below hW (Nat.le_refl _)) hs
  have hD := (Box.new w 32 #[.slice A0 n cap]).alloc (.cells #[.bool false, .string ⟨#[]⟩, .string ⟨#[]⟩] 27)
  have hR := Box.new (w.alloc (.cells #[.slice A0 n cap] 32)) 27 #[.bool false, .string ⟨#[]⟩, .string ⟨#[]⟩]
  rw [show (w.alloc (.cells #[.slice A0 n cap] 32)).heap.size = w.heap.size + 1 by simp] at hR
  have hB := ((Below.refl w.heap.size w).alloc (Nat.le_refl _) (.cells #[.slice A0 n cap] 32)).alloc (by simp) (.cells #[.bool false, .string ⟨#[]⟩, .string ⟨#[]⟩] 27)
  have hd0 := hD.cell 0
  unfold varRes
  cases hv : distOk F n with
  | false =>
    rw [hv] at CV
    clear hv hA hs
    rw [if_neg (by simp)]
    go_enter Tryz.func43, Tryz.ntmps43
    go_wp2_with (go_at_call 61; refine (CV.out _ hB).mono ?_; rintro e w1 ⟨rfl, hb1⟩; have hB1 := hB.trans (hb1.mono hB.size); have hR1 := hR.below hb1 hR.lt; obtain ⟨z0, z1, z2, f0, f1, f2⟩ := hR1.three)
    obtain ⟨m0, m1, m2⟩ := hR1.put3 (.bool false) (.string ⟨#[]⟩) (.string ⟨#[]⟩)
    refine bodyPost_ret (v := noRat) (by simp [results, Tryz.results43, go_sem, noRat, m0, m1, m2]; done) rfl ⟨rfl, ?_⟩
    exact below_put3 hB1 (by omega) _ _ _
  | true =>
    rw [hv] at CV
    obtain ⟨hn6, hok, _⟩ := distOk_parts hv
    have CT : Hid (∀ W, Below w.heap.size w W → _) := Lib.hid fun W hW => sumS_any A0 n cap F W hn6 (hA.below hW (Nat.le_refl _)) hok
    have hln := sumQ_ln (ptsOk_rats hok) (show 0 + n ≤ n by omega) (by omega)
    have hlow := total_low hok
    have hpos := total_pos hok
    rw [show sumR (qOf (massF F)) 0 n = total F n from rfl] at hln
    have hone : isOne F n = decide ((total F n).2.1 = (total F n).2.2) := rfl
    obtain ⟨⟨sg, N, D⟩, ho⟩ : ∃ o, o = total F n := ⟨_, rfl⟩
    rw [← ho] at CT hln hlow hpos hone
    simp only at CT hln hpos hone
    obtain rfl : sg = false := hpos
    have hD0 := hlow.pos
    simp only at hD0
    have C1 : Hid (∀ W, Calls Tryz.prog 68 #[.int .i64 1] W fun e w' => (∃ v, e = .returned v ∧ IsQ w' v false 1 1) ∧ Below W.heap.size W w') := Lib.hid fun W => intQ_any 1 W (by omega) (by omega)
    have l1 : ln 10000 1 ≤ 137438953472 := by rw [Num.ln_one 10000 (by omega)]; omega
    have CC : Hid (∀ (u1 u2 u3 u4 : Value) W, Nums 3 .i64 10000 W u1 N → Nums 3 .i64 10000 W u2 D → Nums 3 .i64 10000 W u3 1 → Nums 3 .i64 10000 W u4 1 → _) :=
      Lib.hid fun u1 u2 u3 u4 W g1 g2 g3 g4 => cmpQ_any false false u1 u2 u3 u4 N D 1 1 W g1 g2 g3 g4 (fun _ => rfl) (fun _ => rfl) hD0 Nat.one_pos (by omega) (by omega) l1 l1
    have hz1 := cmp_is N D
    obtain ⟨z, hz⟩ : ∃ z, z = cmpR false N D false 1 1 := ⟨_, rfl⟩
    rw [← hz] at CC hz1
    obtain ⟨dv, hdv⟩ : ∃ d, d = decide (N = D) := ⟨_, rfl⟩
    rw [← hdv] at hz1 hone
    rw [hone, Bool.true_and]
    clear hln hlow hD0 hz hdv ho l1 hone hv
    cases dv with
    | false =>
      clear hA hs hok
      rw [if_neg (by decide)]
      go_enter Tryz.func43, Tryz.ntmps43
      go_wp2_with (first
        | (go_at_call 61; refine (CV.out _ hB).mono ?_; rintro e w1 ⟨rfl, hb1⟩; have hB1 := hB.trans (hb1.mono hB.size); have hR1 := hR.below hb1 hR.lt; have hd1 := (hD.below hb1 hD.lt).cell 0)
        | (go_at_call 63; refine (CT.out _ hB1).mono ?_; rintro e w2 ⟨⟨v, rfl, vn, vd, rfl, hvn, hvd⟩, hb2⟩; obtain ⟨A5, c5, rfl, _, _, _⟩ := RowF.open hvn; obtain ⟨A6, c6, rfl, _, _, _⟩ := RowF.open hvd; have hB2 := hB1.trans (hb2.mono hB1.size); have hR2 := hR1.below hb2 hR1.lt)
        | (go_at_call 68; refine (C1.out _).mono ?_; rintro e w3 ⟨⟨v, rfl, vN, vD, rfl, hvN, hvD⟩, hb3⟩; obtain ⟨A7, c7, rfl, _, _, _⟩ := RowF.open hvN; obtain ⟨A8, c8, rfl, _, _, _⟩ := RowF.open hvD; have hB3 := hB2.trans (hb3.mono hB2.size); have hR3 := hR2.below hb3 hR2.lt; replace hvn := hvn.below hb3 (Nat.le_refl _); replace hvd := hvd.below hb3 (Nat.le_refl _))
        | (go_at_call 96; refine (CC.out _ _ _ _ _ hvn hvd hvN hvD).mono ?_; rintro e w4 ⟨rfl, hb4⟩; have hB4 := hB3.trans (hb4.mono hB3.size); have hR4 := hR3.below hb4 hR3.lt; obtain ⟨z0, z1, z2, f0, f1, f2⟩ := hR4.three))
      obtain ⟨m0, m1, m2⟩ := hR4.put3 (.bool false) (.string ⟨#[]⟩) (.string ⟨#[]⟩)
      refine bodyPost_ret (v := noRat) (by simp [results, Tryz.results43, go_sem, noRat, m0, m1, m2]; done) rfl ⟨rfl, ?_⟩
      exact below_put3 hB4 (by omega) _ _ _
    | true =>
      rw [if_pos rfl]
      have CM1 : Hid (∀ W, Below w.heap.size w W → _) := Lib.hid fun W hW => momS_any false A0 n cap F W hn6 (hA.below hW (Nat.le_refl _)) hok 1 (by decide)
      have CM2 : Hid (∀ W, Below w.heap.size w W → _) := Lib.hid fun W hW => momS_any true A0 n cap F W hn6 (hA.below hW (Nat.le_refl _)) hok 2 (by decide)
      have hm1 := momT_ln (two := false) hok (Nat.le_refl n) hn6
      have hm2 := momT_ln (two := true) hok (Nat.le_refl n) hn6
      have hl1 := momT_low (two := false) hok (Nat.le_refl n)
      have hl2 := momT_low (two := true) hok (Nat.le_refl n)
      have hsl := sqM_low hok
      have hsn := (sqM_ln hok hn6).1
      have hvl := varQ_low hok
      have hvn' := varQ_ln hok hn6
      have hvq : varQ F n = addO (momT F true n).1 (momT F true n).2.1 (momT F true n).2.2 (!(sqM F n).1 && decide (0 < (sqM F n).2.1)) (sqM F n).2.1 (sqM F n).2.2 := rfl
      have hsq : sqM F n = mulO (momT F false n).1 (momT F false n).2.1 (momT F false n).2.2 (momT F false n).1 (momT F false n).2.1 (momT F false n).2.2 := rfl
      obtain ⟨⟨s1, N1, D1⟩, o1⟩ : ∃ o, o = momT F false n := ⟨_, rfl⟩
      obtain ⟨⟨s2, N2, D2⟩, o2⟩ : ∃ o, o = momT F true n := ⟨_, rfl⟩
      obtain ⟨⟨s3, N3, D3⟩, o3⟩ : ∃ o, o = sqM F n := ⟨_, rfl⟩
      obtain ⟨⟨s4, N4, D4⟩, o4⟩ : ∃ o, o = varQ F n := ⟨_, rfl⟩
      rw [← o1] at CM1 hm1 hl1 hsq
      rw [← o2] at CM2 hm2 hl2 hvq
      rw [← o3] at hsq hsl hsn hvq
      rw [← o4] at hvq hvl hvn' ⊢
      simp only at CM1 CM2 hm1 hm2 hsq hsn hvq hvn' ⊢
      unfold mulO at hsq
      simp only [Prod.mk.injEq] at hsq
      obtain ⟨q1, q2, q3⟩ := hsq
      have p1 := hl1.pos
      have p2 := hl2.pos
      have p3 := hsl.pos
      simp only at p1 p2 p3
      have lm1 := ln_mul 10000 N1 N1 (by omega)
      have lm2 := ln_mul 10000 D1 D1 (by omega)
      have hpp : 0 < D1 * D1 := Nat.mul_pos p1 p1
      have CMul : Hid (∀ (u1 u2 : Value) W, Nums 3 .i64 10000 W u1 N1 → Nums 3 .i64 10000 W u2 D1 → Calls Tryz.prog 86 #[.agg #[.bool s1, u1, u2], .agg #[.bool s1, u1, u2]] W fun e w' => (∃ v, e = .returned v ∧ IsQ w' v s3 N3 D3) ∧ Below W.heap.size W w') :=
        Lib.hid fun u1 u2 W g1 g2 => by
          have h := mulQ_any s1 s1 u1 u2 u1 u2 N1 D1 N1 D1 W g1 g2 g1 g2 (by omega) (by omega) (by omega) (by omega) (N1 * N1) (D1 * D1) rfl rfl hpp (by omega) (by omega) _ rfl
          rw [← q1, ← q2, ← q3] at h
          exact h
      have CN : Hid (∀ (u1 u2 : Value) W, Nums 3 .i64 10000 W u1 N3 → Nums 3 .i64 10000 W u2 D3 → _) := Lib.hid fun u1 u2 W g1 g2 => negQ_any s3 u1 u2 N3 D3 W g1 g2
      obtain ⟨s5, h5⟩ : ∃ s, s = (!s3 && decide (0 < N3)) := ⟨_, rfl⟩
      rw [← h5] at CN hvq
      have CA : Hid (∀ (u1 u2 u3 u4 : Value) W, Nums 3 .i64 10000 W u1 N2 → Nums 3 .i64 10000 W u2 D2 → Nums 3 .i64 10000 W u3 N3 → Nums 3 .i64 10000 W u4 D3 → _) :=
        Lib.hid fun u1 u2 u3 u4 W g1 g2 g3 g4 => addQ_as s2 s5 u1 u2 u3 u4 N2 D2 N3 D3 W g1 g2 g3 g4 (by omega) (by omega) (by omega) (by omega) p2 p3
      rw [← hvq] at CA
      simp only at CA
      have CR : Hid (∀ (u1 u2 : Value) W, Nums 3 .i64 10000 W u1 N4 → Nums 3 .i64 10000 W u2 D4 → _) :=
        Lib.hid fun u1 u2 W g1 g2 => rat_of_low s4 u1 u2 N4 D4 W g1 g2 hvl.pos hvl.gcd hvl.sign (by omega) (by omega)
      obtain ⟨rb, rx, ry, rc, hres⟩ := ratRes_shape s4 N4 D4
      rw [hres] at CR ⊢
      clear hA hs hok hm1 hm2 hl1 hl2 hsl hsn hvl hvn' hvq o1 o2 o3 o4 q1 q2 q3 p1 p2 p3 lm1 lm2 hpp h5 hres
      go_enter Tryz.func43, Tryz.ntmps43
      go_upto_region 4 with (first
        | (go_at_call 61; refine (CV.out _ hB).mono ?_; rintro e w1 ⟨rfl, hb1⟩; have hB1 := hB.trans (hb1.mono hB.size); have hR1 := hR.below hb1 hR.lt; have hD1 := hD.below hb1 hD.lt; have hd1 := hD1.cell 0)
        | (go_at_call 63; refine (CT.out _ hB1).mono ?_; rintro e w2 ⟨⟨v, rfl, vn, vd, rfl, hvn, hvd⟩, hb2⟩; obtain ⟨A5, c5, rfl, _, _, _⟩ := RowF.open hvn; obtain ⟨A6, c6, rfl, _, _, _⟩ := RowF.open hvd; have hB2 := hB1.trans (hb2.mono hB1.size); have hR2 := hR1.below hb2 hR1.lt; have hD2 := hD1.below hb2 hD1.lt)
        | (go_at_call 68; refine (C1.out _).mono ?_; rintro e w3 ⟨⟨v, rfl, vN, vD, rfl, hvN, hvD⟩, hb3⟩; obtain ⟨A7, c7, rfl, _, _, _⟩ := RowF.open hvN; obtain ⟨A8, c8, rfl, _, _, _⟩ := RowF.open hvD; have hB3 := hB2.trans (hb3.mono hB2.size); have hR3 := hR2.below hb3 hR2.lt; have hD3 := hD2.below hb3 hD2.lt; replace hvn := hvn.below hb3 (Nat.le_refl _); replace hvd := hvd.below hb3 (Nat.le_refl _))
        | (go_at_call 96; refine (CC.out _ _ _ _ _ hvn hvd hvN hvD).mono ?_; rintro e w4 ⟨rfl, hb4⟩; have hB4 := hB3.trans (hb4.mono hB3.size); have hR4 := hR3.below hb4 hR3.lt; have hD4 := hD3.below hb4 hD3.lt; have hd4 := hD4.cell 0)
        | (go_at_call 94; refine (CM1.out _ hB4).mono ?_; rintro e w5 ⟨⟨v, rfl, vm, vk, rfl, hvm, hvk⟩, hb5⟩; obtain ⟨A9, c9, rfl, _, _, _⟩ := RowF.open hvm; obtain ⟨A10, c10, rfl, _, _, _⟩ := RowF.open hvk; have hB5 := hB4.trans (hb5.mono hB4.size); have hR5 := hR4.below hb5 hR4.lt; have hD5 := hD4.below hb5 hD4.lt))
      have hal := (Below.refl w5.heap.size w5).alloc (Nat.le_refl _) (.cells #[.bool s1, .slice A9 (ln 10000 N1) c9, .slice A10 (ln 10000 D1) c10] 78)
      have hQ := Box.new w5 78 #[.bool s1, .slice A9 (ln 10000 N1) c9, .slice A10 (ln 10000 D1) c10]
      have hQlt : w.heap.size + 1 < w5.heap.size := hR5.lt
      have hkv : KeepV w _ w5.heap.size (.slice A0 n cap) (.bool s1) (.slice A9 (ln 10000 N1) c9) (.slice A10 (ln 10000 D1) c10) N1 D1 := ⟨hB5.trans (hal.mono hB5.size), hD5.below hal hD5.lt, hQ, hvm.below hal (Nat.le_refl _), hvk.below hal (Nat.le_refl _), _, _, _, hR5.below hal hR5.lt⟩
      obtain ⟨Q, hQd⟩ : ∃ Q, Q = w5.heap.size := ⟨_, rfl⟩
      rw [← hQd] at hkv hQlt ⊢
      generalize hW : World.alloc w5 _ = W at hkv ⊢
      clear hW hQd hal hQ hvm hvk hB5 hR5 hD5 hb5 hB4 hR4 hD4 hb4 hd4 hvn hvd hvN hvD hB3 hR3 hD3 hb3 hB2 hR2 hD2 hb2 hB1 hR1 hD1 hb1 hd1 hd0 hD hR hB CV CT C1 CC CM1 hz1
      go_region_held3 (fun w' => w'.cell? ⟨w.heap.size, 0, none⟩ = some (.slice A0 n cap) ∧ w'.cell? ⟨Q, 0, none⟩ = some (.bool s1) ∧ w'.cell? ⟨Q, 1, none⟩ = some (.slice A9 (ln 10000 N1) c9) ∧ w'.cell? ⟨Q, 2, none⟩ = some (.slice A10 (ln 10000 D1) c10) ∧ KeepV w w' Q (.slice A0 n cap) (.bool s1) (.slice A9 (ln 10000 N1) c9) (.slice A10 (ln 10000 D1) c10) N1 D1)
        ((refine KeepV.holds ?_; first | exact hkv.drew | exact keepV_of (by assumption) | (refine KeepV.step (keepV_of (by assumption)) ?_; assumption) | exact KeepV.put (keepV_of (by assumption)) hQlt _ _ _))
        (first
          | (go_at_call 94; refine (CM2.out _ (keepV_of (by assumption)).1).mono ?_; rintro e wa ⟨⟨v, rfl, va, vb, rfl, hva, hvb⟩, hba⟩; obtain ⟨A11, c11, rfl, _, _, _⟩ := RowF.open hva; obtain ⟨A12, c12, rfl, _, _, _⟩ := RowF.open hvb)
          | (go_at_call 86; refine (CMul.out _ _ _ (keepV_of (by assumption)).2.2.2.1 (keepV_of (by assumption)).2.2.2.2.1).mono ?_; rintro e wb ⟨⟨v, rfl, vp, vq, rfl, hvp, hvq⟩, hbb⟩; obtain ⟨A13, c13, rfl, _, _, _⟩ := RowF.open hvp; obtain ⟨A14, c14, rfl, _, _, _⟩ := RowF.open hvq; have hva1 := hva.below hbb (Nat.le_refl _); have hvb1 := hvb.below hbb (Nat.le_refl _))
          | (go_at_call 85; refine (CN.out _ _ _ hvp hvq).mono ?_; rintro e wc ⟨⟨v, rfl, vr, vs, rfl, hvr, hvs⟩, hbc⟩; obtain ⟨A15, c15, rfl, _, _, _⟩ := RowF.open hvr; obtain ⟨A16, c16, rfl, _, _, _⟩ := RowF.open hvs; have hva2 := hva1.below hbc (Nat.le_refl _); have hvb2 := hvb1.below hbc (Nat.le_refl _))
          | (go_at_call 84; refine (CA.out _ _ _ _ _ hva2 hvb2 hvr hvs).mono ?_; rintro e wd ⟨⟨v, rfl, vt, vu, rfl, hvt, hvu⟩, hbd⟩; obtain ⟨A17, c17, rfl, _, _, _⟩ := RowF.open hvt; obtain ⟨A18, c18, rfl, _, _, _⟩ := RowF.open hvu)
          | (go_at_call 62; refine (CR.out _ _ _ hvt hvu).mono ?_; rintro e we ⟨rfl, hbe⟩; obtain ⟨q0, q1, q2, hz⟩ := Boxy.below (keepV_of (by assumption)).2.2.2.2.2 hbe; obtain ⟨z0, z1, z2, f0, f1, f2⟩ := hz.three))
      all_goals go_wp2_with fail
      all_goals obtain ⟨m0, m1, m2⟩ := hz.put3 (.bool rb) (.string rx) (.string ry)
      all_goals refine bodyPost_ret (v := .tuple #[.agg #[.bool rb, .string rx, .string ry], .bool rc]) (by simp [results, Tryz.results43, go_sem, m0, m1, m2]; done) rfl ⟨rfl, (keepV_of (by assumption)).1⟩

/-- What the program's last region keeps: the mean's block, its digits, the block of the result. -/
def KeepW (w w' : World) (Q : Nat) (s u v : Value) (N D : Nat) : Prop :=
  Below w.heap.size w w' ∧ Box w' Q 85 #[s, u, v] ∧ Nums 143 .u64 WB w' u N ∧ Nums 143 .u64 WB w' v D ∧ Boxy w' (w.heap.size + 1) 85

section
variable {w w1 w2 : World} {Q : Nat} {s u v : Value} {N D : Nat}
theorem KeepW.drew (h : KeepW w w1 Q s u v N D) : KeepW w w1.drew Q s u v N D :=
  ⟨h.1.trans ((Below.refl w1.heap.size w1).drew.mono h.1.size), h.2.1, h.2.2.1, h.2.2.2.1, h.2.2.2.2⟩
theorem KeepW.step (h : KeepW w w1 Q s u v N D) (hb : Below w1.heap.size w1 w2) : KeepW w w2 Q s u v N D :=
  ⟨h.1.trans (hb.mono h.1.size), h.2.1.below hb h.2.1.lt, h.2.2.1.below hb (Nat.le_refl _), h.2.2.2.1.below hb (Nat.le_refl _), h.2.2.2.2.below hb⟩
theorem KeepW.put (h : KeepW w w1 Q s u v N D) (hQ : w.heap.size + 1 < Q) (x y z : Value) : KeepW w (((w1.setCell ⟨w.heap.size + 1, 0, none⟩ x).setCell ⟨w.heap.size + 1, 1, none⟩ y).setCell ⟨w.heap.size + 1, 2, none⟩ z) Q s u v N D := by
  obtain ⟨h1, h3, h4, h5, h6⟩ := h
  obtain ⟨a, b, c, hx⟩ := h6
  exact ⟨below_put3 h1 (Nat.le_succ _) x y z, ((h3.far (by omega) 0 x).far (by omega) 1 y).far (by omega) 2 z, Nums.put3 h4 hx (by decide) x y z, Nums.put3 h5 hx (by decide) x y z, Boxy.put ⟨a, b, c, hx⟩ x y z⟩
theorem KeepW.holds (h : KeepW w w1 Q s u v N D) : w1.cell? ⟨Q, 0, none⟩ = some s ∧ w1.cell? ⟨Q, 1, none⟩ = some u ∧ w1.cell? ⟨Q, 2, none⟩ = some v ∧ KeepW w w1 Q s u v N D :=
  ⟨h.2.1.cell 0, h.2.1.cell 1, h.2.1.cell 2, h⟩
end
theorem keepW_of {w w' : World} {Q : Nat} {s u v : Value} {N D : Nat} {p1 p2 p3 : Prop} (h : p1 ∧ p2 ∧ p3 ∧ KeepW w w' Q s u v N D) : KeepW w w' Q s u v N D := h.2.2.2

set_option maxRecDepth 100000 in
set_option maxHeartbeats 3200000 in
theorem variance_any (A1 : Option Addr) (c1 : Nat) (A2 : Option Addr) (c2 : Nat) (sg : Bool) (A3 : Option Addr) (l3 c3 : Nat) (A4 : Option Addr) (l4 c4 : Nat) (n : Nat) (F : Nat → Int × Bool × ByteArray × ByteArray) (w : World) (hn : n ≤ 60) (hok : ptsOk F n = true) (h1 : IntAt w A1 n fun j => (F j).1) (h2 : FracAt w A2 n (massQ F)) (hT : Tab64 w) :
    Calls Tryz.prog 98 #[.agg #[.slice A1 n c1, .slice A2 n c2, .bool sg, .slice A3 l3 c3, .slice A4 l4 c4]] w fun e w' => (∃ v, e = .returned v ∧ IsF w' v (varQ F n).1 (varQ F n).2.1 (varQ F n).2.2) ∧ Below w.heap.size w w' := by
  have CS := fun A => Lib.hid (mean_tail hn hok true w hT A)
  have CE : Hid (∀ W, Below w.heap.size w W → _) := Lib.hid fun W hW => mean_any A1 c1 A2 c2 sg A3 l3 c3 A4 l4 c4 n F W hn hok (h1.below hW (Nat.le_refl _)) (h2.below hW (Nat.le_refl _)) (hT.below hW)
  have H1 := Lib.hid h1; clear h1
  have H2 := Lib.hid h2; clear h2
  have HOK := Lib.hid hok; clear hok
  have HT := Lib.hid hT; clear hT
  have hmk := mk_frac n (by omega)
  have e0 : ∀ (W : World) (o : Obj), (W.alloc o).heap.size = W.heap.size + 1 := fun W o => by simp
  have hM := ((Box.new w 87 #[.slice A1 n c1, .slice A2 n c2, .bool sg, .slice A3 l3 c3, .slice A4 l4 c4]).alloc (.cells #[.bool false, .slice none 0 0, .slice none 0 0] 85)).alloc (.cells (madeCells #[.bool false, .slice none 0 0, .slice none 0 0] (n * 3)) 85)
  have hMa := (Box.new w 87 #[.slice A1 n c1, .slice A2 n c2, .bool sg, .slice A3 l3 c3, .slice A4 l4 c4]).alloc (.cells #[.bool false, .slice none 0 0, .slice none 0 0] 85)
  have hR := (Box.new (w.alloc (.cells #[.slice A1 n c1, .slice A2 n c2, .bool sg, .slice A3 l3 c3, .slice A4 l4 c4] 87)) 85 #[.bool false, .slice none 0 0, .slice none 0 0]).alloc (.cells (madeCells #[.bool false, .slice none 0 0, .slice none 0 0] (n * 3)) 85)
  have hG := Box.new ((w.alloc (.cells #[.slice A1 n c1, .slice A2 n c2, .bool sg, .slice A3 l3 c3, .slice A4 l4 c4] 87)).alloc (.cells #[.bool false, .slice none 0 0, .slice none 0 0] 85)) 85 (madeCells #[.bool false, .slice none 0 0, .slice none 0 0] (n * 3))
  have hB := (((Below.refl w.heap.size w).alloc (Nat.le_refl _) (.cells #[.slice A1 n c1, .slice A2 n c2, .bool sg, .slice A3 l3 c3, .slice A4 l4 c4] 87)).alloc (by simp) (.cells #[.bool false, .slice none 0 0, .slice none 0 0] 85)).alloc (by simp; omega) (.cells (madeCells #[.bool false, .slice none 0 0, .slice none 0 0] (n * 3)) 85)
  rw [e0] at hR
  rw [e0, e0] at hG
  have m0 := hMa.cell 0
  have n0 := hM.cell 0
  clear e0
  go_enter Tryz.func98, Tryz.ntmps98
  go_wp2_with fail
  clear hmk m0 n0 hMa
  go_loopg [14] n (fun q iv wr => ∃ (k : Nat) (cs : Array Value), k + q = n ∧ iv = .int .i64 (k : Nat) ∧ cs.size = n * 3 ∧ Box wr (w.heap.size + 1 + 1) 85 cs ∧ FilledF wr cs (momQ F true) k ∧ Box wr (w.heap.size + 1) 85 #[.bool false, .slice none 0 0, .slice none 0 0] ∧ KeepE w wr #[.slice A1 n c1, .slice A2 n c2, .bool sg, .slice A3 l3 c3, .slice A4 l4 c4])
  case atStart => exact ⟨0, _, by omega, rfl, size_madeCells _ _, hG, fun j h => by omega, hR, hB, hM⟩
  case round =>
    obtain ⟨k, cs, hkq, rfl, hcs, hGr, hfill, hRr, hke⟩ := hrel
    have HF := Lib.hid hfill; clear hfill
    clear hG hR hB hM
    by_cases hk0 : k < n
    · obtain ⟨b1, o1, rfl, hl1, hi⟩ := H1.out (by omega)
      obtain ⟨b2, o2, rfl, hl2, hf⟩ := H2.out (by omega)
      obtain ⟨vn, vd, d0, d1, d2, gn, gd⟩ := hf k hk0
      obtain ⟨A5, c5, rfl, _, _, _⟩ := RowF.open gn
      obtain ⟨A6, c6, rfl, _, _, _⟩ := RowF.open gd
      have hv0 : wr.cell? ⟨b1, o1 + k, none⟩ = some (.int .i64 (F k).1) := (hke.1.cell (p := ⟨b1, o1 + k, none⟩) hl1).trans (hi k hk0)
      have hpo := ptOk_parts (ptsOk_at HOK.out hk0)
      have hql := qOf_low (F := massF F) (j := k) hpo.2.2.1
      have hqc := qOf_cap (F := massF F) (j := k) hpo.2.2.1
      have l1 := ln_of_pow (k := 1) WB_two capN_WB (by rw [Nat.pow_one]; exact hqc.1)
      have l2 := ln_of_pow (k := 1) WB_two capN_WB (by rw [Nat.pow_one]; exact hqc.2)
      have hmq : momQ F true k = mulO (decide (powV true (F k).1 < 0)) (powV true (F k).1).natAbs 1 (massQ F k).1 (massQ F k).2.1 (massQ F k).2.2 := rfl
      have hm1 : (massQ F k).1 = false := hpo.2.2.2.1
      obtain ⟨v, hv⟩ : ∃ v, v = (F k).1 := ⟨_, rfl⟩
      rw [← hv] at hv0 hmq hpo
      obtain ⟨⟨ms, mN, mD⟩, hmm⟩ : ∃ o, o = massQ F k := ⟨_, rfl⟩
      have hql' : LowO (ms, mN, mD) := by rw [hmm]; exact hql
      rw [show qOf (massF F) k = massQ F k from rfl, ← hmm] at l1 l2
      rw [← hmm] at hmq gn gd d0 d1 d2 hm1
      simp only at hmq gn gd d0 d1 d2 l1 l2 hm1
      subst hm1
      obtain ⟨⟨ps, pN, pD⟩, hp⟩ : ∃ o, o = momQ F true k := ⟨_, rfl⟩
      rw [← hp] at hmq
      have hpf := powV_fit true v hpo.1.1 hpo.1.2
      obtain ⟨x, hx⟩ : ∃ x, x = powV true v := ⟨_, rfl⟩
      rw [← hx] at hmq hpf
      have hwv : IntKind.i64.wrap (v * v) = x := by rw [show v * v = x by rw [hx]; rfl]; exact IntWalk.i64_in _ (by omega)
      have hlv : ln WB x.natAbs ≤ 1 := ln_le_of_lt _ _ _ WB_two (by unfold WB; omega)
      have hl1' : ln WB 1 ≤ 1 := Nat.le_of_eq (Num.ln_one WB WB_two)
      have hvz : x.natAbs = 0 → decide (x < 0) = false := fun e => decide_eq_false (by omega)
      have hpos := hql'.pos
      have hgcd := hql'.gcd
      simp only at hpos hgcd
      have CI : Hid (∀ W, Below w.heap.size w W → _) := Lib.hid fun W hW => fracInt_one x W (HT.out.below hW) (by omega) (by omega)
      have CM : Hid (∀ (u1 u2 : Value) W, Below w.heap.size w W → Nums 143 .u64 WB W u1 x.natAbs → Nums 143 .u64 WB W u2 1 → Calls Tryz.prog 93 #[.agg #[.bool (decide (x < 0)), u1, u2], .agg #[.bool false, .slice A5 (ln WB mN) c5, .slice A6 (ln WB mD) c6]] W fun e w' => (∃ v, e = .returned v ∧ IsF w' v ps pN pD) ∧ Below W.heap.size W w') :=
        Lib.hid fun u1 u2 W hW q1 q2 => mulF_any (decide (x < 0)) false u1 u2 _ _ x.natAbs 1 mN mD W q1 q2 (gn.below hW (Nat.le_refl _)) (gd.below hW (Nat.le_refl _)) (HT.out.below hW) (by omega) (by omega) (by omega) (by omega) Nat.one_pos hpos (Nat.gcd_one_right _) hgcd hvz (fun _ => rfl) ps pN pD hmq.symm
      have i1 : (0 : Int) ≤ (k : Int) := by omega
      have i2 : (k : Int) < (n : Int) := by omega
      have hG0 : w.heap.size < w.heap.size + 1 + 1 := by omega
      have Hp := Lib.hid hp
      clear hi hf gn gd hpo hql hqc l1 l2 hmq hv hmm hql' hp hlv hl1' hvz hpos hgcd hx hpf
      go_upto_region 5 with fail
      go_region_held3 (fun w' => w'.cell? ⟨w.heap.size, 1, none⟩ = some (.slice (some ⟨b2, o2, none⟩) n c2) ∧ w'.cell? ⟨b2, o2 + k * 3, none⟩ = some (.bool false) ∧ w'.cell? ⟨b2, o2 + k * 3 + 1, none⟩ = some (.slice A5 (ln WB mN) c5) ∧ w'.cell? ⟨b2, o2 + k * 3 + 2, none⟩ = some (.slice A6 (ln WB mD) c6) ∧ KeepE w w' #[.slice (some ⟨b1, o1, none⟩) n c1, .slice (some ⟨b2, o2, none⟩) n c2, .bool sg, .slice A3 l3 c3, .slice A4 l4 c4])
        ((refine KeepE.holds ?_ hl2 d0 d1 d2; first | exact hke.drew | exact keepE_of (by assumption) | (refine KeepE.step (keepE_of (by assumption)) ?_; assumption) | exact KeepE.put (keepE_of (by assumption)) hG0 _ _ _))
        (first
          | (go_at_call 70; refine (CI.out _ (keepE_of (by assumption)).1).mono ?_; rintro e wi ⟨⟨u, rfl, ui, uj, rfl, hui, huj⟩, hbi⟩; obtain ⟨A7, c7, rfl, _, _, _⟩ := RowF.open hui; obtain ⟨A8, c8, rfl, _, _, _⟩ := RowF.open huj)
          | (go_at_call 93; refine (CM.out _ _ _ (keepE_of (by assumption)).1 hui huj).mono ?_; rintro e wm ⟨⟨u, rfl, uN, uD, rfl, huN, huD⟩, hbm⟩; obtain ⟨A9, c9, rfl, _, _, _⟩ := RowF.open huN; obtain ⟨A10, c10, rfl, _, _, _⟩ := RowF.open huD; have h23 := (Below.refl wr.heap.size wr).drew.trans hbi; have h24 := h23.trans (hbm.mono h23.size); have hGm := hGr.below h24 hGr.lt; obtain ⟨z0, z1, z2, f0, f1, f2⟩ := three_at hGm (k * 3) (by omega)))
      all_goals go_wp2_with fail
      all_goals have hkf := keepE_of (by assumption)
      all_goals have hRm := hRr.below h24 hRr.lt
      all_goals have hFm := HF.out.below h24
      go_roundg (gk - 1)
      case measure => omega
      case rel =>
        have hm := hFm.more hcs hk0 (vn := .slice A9 (ln WB pN) c9) (vd := .slice A10 (ln WB pD) c10) (by rw [← Hp.out]; exact huN) (by rw [← Hp.out]; exact huD)
        rw [← Hp.out] at hm
        have k1 := hGm.set (k * 3) (.bool ps)
        have k2 := k1.set (k * 3 + 1) (.slice A9 (ln WB pN) c9)
        have k3 := k2.set (k * 3 + 2) (.slice A10 (ln WB pD) c10)
        exact ⟨k + 1, _, by omega, by go_num, by simp [hcs], k3, ((hm.set hGm (by decide)).set k1 (by decide)).set k2 (by decide), ((hRm.other (by omega) _ _).other (by omega) _ _).other (by omega) _ _, hkf⟩
    · obtain rfl : k = n := by omega
      have hFr := HF.out.at_ hGr
      have hok := HOK.out
      have hl1 := momT_low (two := false) hok (Nat.le_refl k)
      have hl2 := momT_low (two := true) hok (Nat.le_refl k)
      obtain ⟨_, b1, b2⟩ := fit_ln (momQ_FitF (two := false) hok) (by omega)
      obtain ⟨_, b3, b4⟩ := fit_ln (momQ_FitF (two := true) hok) (by omega)
      rw [show sumR (momQ F false) 0 k = momT F false k from rfl] at b1 b2
      rw [show sumR (momQ F true) 0 k = momT F true k from rfl] at b3 b4
      have hsl := sqM_low hok
      obtain ⟨_, b5, b6⟩ := sqM_ln hok hn
      have hvq : addO (momT F true k).1 (momT F true k).2.1 (momT F true k).2.2 (!(sqM F k).1 && decide (0 < (sqM F k).2.1)) (sqM F k).2.1 (sqM F k).2.2 = varQ F k := rfl
      have hsq : mulO (momT F false k).1 (momT F false k).2.1 (momT F false k).2.2 (momT F false k).1 (momT F false k).2.1 (momT F false k).2.2 = sqM F k := rfl
      have CS' := CS (some ⟨w.heap.size + 1 + 1, 0, none⟩)
      obtain ⟨⟨s1, N1, D1⟩, o1⟩ : ∃ o, o = momT F false k := ⟨_, rfl⟩
      obtain ⟨⟨s2, N2, D2⟩, o2⟩ : ∃ o, o = momT F true k := ⟨_, rfl⟩
      obtain ⟨⟨s3, N3, D3⟩, o3⟩ : ∃ o, o = sqM F k := ⟨_, rfl⟩
      obtain ⟨⟨s4, N4, D4⟩, o4⟩ : ∃ o, o = varQ F k := ⟨_, rfl⟩
      rw [← o1] at CE hl1 b1 b2 hsq
      rw [← o2] at CS' hl2 b3 b4 hvq
      rw [← o3] at hsq hsl b5 b6 hvq
      rw [← o4] at hvq
      have Ho := Lib.hid o4
      simp only at CE CS' b1 b2 b3 b4 b5 b6 hsq hvq
      have z1 : N1 = 0 → s1 = false := fun e => by cases hs : s1 with
        | false => rfl
        | true => have := hl1.sign hs; simp only at this; omega
      have z2 : N2 = 0 → s2 = false := fun e => by cases hs : s2 with
        | false => rfl
        | true => have := hl2.sign hs; simp only at this; omega
      have p1 := hl1.pos
      have p2 := hl2.pos
      have p3 := hsl.pos
      have k1 := hl1.gcd
      have k2 := hl2.gcd
      have k3 := hsl.gcd
      simp only at p1 p2 p3 k1 k2 k3
      have CMul : Hid (∀ (u1 u2 : Value) W, Below w.heap.size w W → Nums 143 .u64 WB W u1 N1 → Nums 143 .u64 WB W u2 D1 → Calls Tryz.prog 93 #[.agg #[.bool s1, u1, u2], .agg #[.bool s1, u1, u2]] W fun e w' => (∃ v, e = .returned v ∧ IsF w' v s3 N3 D3) ∧ Below W.heap.size W w') :=
        Lib.hid fun u1 u2 W hW g1 g2 => mulF_any s1 s1 u1 u2 u1 u2 N1 D1 N1 D1 W g1 g2 g1 g2 (HT.out.below hW) (by omega) (by omega) (by omega) (by omega) p1 p1 k1 k1 z1 z1 s3 N3 D3 hsq
      have CN : Hid (∀ (u1 u2 : Value) W, Nums 143 .u64 WB W u1 N3 → Nums 143 .u64 WB W u2 D3 → _) := Lib.hid fun u1 u2 W g1 g2 => negF_any s3 u1 u2 N3 D3 W g1 g2
      obtain ⟨s5, h5⟩ : ∃ s, s = (!s3 && decide (0 < N3)) := ⟨_, rfl⟩
      rw [← h5] at CN hvq
      have z3 : N3 = 0 → s5 = false := fun e => by rw [h5, e]; simp
      have CA : Hid (∀ (u1 u2 u3 u4 : Value) W, Below w.heap.size w W → Nums 143 .u64 WB W u1 N2 → Nums 143 .u64 WB W u2 D2 → Nums 143 .u64 WB W u3 N3 → Nums 143 .u64 WB W u4 D3 → _) :=
        Lib.hid fun u1 u2 u3 u4 W hW g1 g2 g3 g4 => addF_any s2 s5 u1 u2 u3 u4 N2 D2 N3 D3 W g1 g2 g3 g4 (HT.out.below hW) (by omega) (by omega) (by omega) (by omega) p2 p3 k2 k3 z2 z3 s4 N4 D4 hvq
      have hM5 := hke.2
      clear o1 o2 o3 o4 hl1 hl2 b1 b2 b3 b4 b5 b6 hsl hvq hsq z1 z2 z3 p1 p2 p3 k1 k2 k3 h5 hok CS HF H1 H2 HOK
      obtain ⟨⟨y0, y1, y2, y3, y4⟩, _⟩ := hM5.five
      go_upto_region 8 with (go_at_call 95; refine (CE.out _ hke.1).mono ?_; rintro e w5 ⟨⟨u, rfl, vm, vk, rfl, hvm, hvk⟩, hb5⟩; obtain ⟨A9, c9, rfl, _, _, _⟩ := RowF.open hvm; obtain ⟨A10, c10, rfl, _, _, _⟩ := RowF.open hvk)
      have hal := (Below.refl w5.heap.size w5).alloc (Nat.le_refl _) (.cells #[.bool s1, .slice A9 (ln WB N1) c9, .slice A10 (ln WB D1) c10] 85)
      have hQ := Box.new w5 85 #[.bool s1, .slice A9 (ln WB N1) c9, .slice A10 (ln WB D1) c10]
      have hR5 := hRr.below hb5 hRr.lt
      have hB5 := hke.1.trans (hb5.mono hke.1.size)
      have hQlt : w.heap.size + 1 < w5.heap.size := hR5.lt
      have hFr5 := (hFr.below hb5 (Nat.le_refl _)).below hal (Nat.le_refl _)
      have hkw : KeepW w _ w5.heap.size (.bool s1) (.slice A9 (ln WB N1) c9) (.slice A10 (ln WB D1) c10) N1 D1 := ⟨hB5.trans (hal.mono hB5.size), hQ, hvm.below hal (Nat.le_refl _), hvk.below hal (Nat.le_refl _), _, _, _, hR5.below hal hR5.lt⟩
      obtain ⟨Q, hQd⟩ : ∃ Q, Q = w5.heap.size := ⟨_, rfl⟩
      rw [← hQd] at hkw hQlt ⊢
      generalize hW : World.alloc w5 _ = W at hkw hFr5 ⊢
      clear hW hQd hal hQ hvm hvk hB5 hR5 hb5 hFr hRr hGr hke hM5 y0 y1 y2 y3 y4 CE
      go_region_held3 (fun w' => w'.cell? ⟨Q, 0, none⟩ = some (.bool s1) ∧ w'.cell? ⟨Q, 1, none⟩ = some (.slice A9 (ln WB N1) c9) ∧ w'.cell? ⟨Q, 2, none⟩ = some (.slice A10 (ln WB D1) c10) ∧ KeepW w w' Q (.bool s1) (.slice A9 (ln WB N1) c9) (.slice A10 (ln WB D1) c10) N1 D1)
        ((refine KeepW.holds ?_; first | exact hkw.drew | exact keepW_of (by assumption) | (refine KeepW.step (keepW_of (by assumption)) ?_; assumption) | exact KeepW.put (keepW_of (by assumption)) hQlt _ _ _))
        (first
          | (go_at_call 121; refine (CS'.out _ (hFr5.below (Below.refl W.heap.size W).drew (Nat.le_refl _)) (keepW_of (by assumption)).1).mono ?_; rintro e wa ⟨⟨u, rfl, va, vb, rfl, hva, hvb⟩, hba⟩; obtain ⟨A11, c11, rfl, _, _, _⟩ := RowF.open hva; obtain ⟨A12, c12, rfl, _, _, _⟩ := RowF.open hvb)
          | (go_at_call 93; refine (CMul.out _ _ _ (keepW_of (by assumption)).1 (keepW_of (by assumption)).2.2.1 (keepW_of (by assumption)).2.2.2.1).mono ?_; rintro e wb ⟨⟨u, rfl, vp, vq, rfl, hvp, hvq⟩, hbb⟩; obtain ⟨A13, c13, rfl, _, _, _⟩ := RowF.open hvp; obtain ⟨A14, c14, rfl, _, _, _⟩ := RowF.open hvq; have hva1 := hva.below hbb (Nat.le_refl _); have hvb1 := hvb.below hbb (Nat.le_refl _))
          | (go_at_call 91; refine (CN.out _ _ _ hvp hvq).mono ?_; rintro e wc ⟨⟨u, rfl, vr, vs, rfl, hvr, hvs⟩, hbc⟩; obtain ⟨A15, c15, rfl, _, _, _⟩ := RowF.open hvr; obtain ⟨A16, c16, rfl, _, _, _⟩ := RowF.open hvs; have hva2 := hva1.below hbc (Nat.le_refl _); have hvb2 := hvb1.below hbc (Nat.le_refl _))
          | (go_at_call 90; refine (CA.out _ _ _ _ _ (keepW_of (by assumption)).1 hva2 hvb2 hvr hvs).mono ?_; rintro e wd ⟨⟨u, rfl, vt, vu, rfl, hvt, hvu⟩, hbd⟩; obtain ⟨A17, c17, rfl, _, _, _⟩ := RowF.open hvt; obtain ⟨A18, c18, rfl, _, _, _⟩ := RowF.open hvu; obtain ⟨q0, q1, q2, hz⟩ := Boxy.below (keepW_of (by assumption)).2.2.2.2 hbd; obtain ⟨z0, z1, z2, f0, f1, f2⟩ := hz.three))
      all_goals go_wp2_with fail
      all_goals obtain ⟨m0, m1, m2⟩ := hz.put3 (.bool s4) (.slice A17 (ln WB N4) c17) (.slice A18 (ln WB D4) c18)
      all_goals refine bodyPost_ret (v := .agg #[.bool s4, .slice A17 (ln WB N4) c17, .slice A18 (ln WB D4) c18]) (by simp [results, Tryz.results98, go_sem, m0, m1, m2]; done) rfl ⟨⟨_, rfl, by rw [← Ho.out]; exact ⟨_, _, rfl, Nums.put3 hvt hz (by decide) _ _ _, Nums.put3 hvu hz (by decide) _ _ _⟩⟩, (keepW_of (by assumption)).1⟩

/-- What the test of the sum keeps: the measure's block and the result's. -/
def KeepM (w w' : World) (M : Nat) (a b c d e : Value) (N D : Nat) : Prop :=
  Below w.heap.size w w' ∧ Box w' M 87 #[a, b, c, d, e] ∧ Box w' (w.heap.size + 1) 27 #[.bool false, .string ⟨#[]⟩, .string ⟨#[]⟩] ∧ Nums 143 .u64 WB w' d N ∧ Nums 143 .u64 WB w' e D

section
variable {w w1 w2 : World} {M : Nat} {a b c d e : Value} {N D : Nat}
theorem KeepM.drew (h : KeepM w w1 M a b c d e N D) : KeepM w w1.drew M a b c d e N D :=
  ⟨h.1.trans ((Below.refl w1.heap.size w1).drew.mono h.1.size), h.2.1, h.2.2.1, h.2.2.2.1, h.2.2.2.2⟩
theorem KeepM.step (h : KeepM w w1 M a b c d e N D) (hb : Below w1.heap.size w1 w2) : KeepM w w2 M a b c d e N D :=
  ⟨h.1.trans (hb.mono h.1.size), h.2.1.below hb h.2.1.lt, h.2.2.1.below hb h.2.2.1.lt, h.2.2.2.1.below hb (Nat.le_refl _), h.2.2.2.2.below hb (Nat.le_refl _)⟩
theorem KeepM.holds (h : KeepM w w1 M a b c d e N D) : w1.cell? ⟨M, 2, none⟩ = some c ∧ w1.cell? ⟨M, 3, none⟩ = some d ∧ w1.cell? ⟨M, 4, none⟩ = some e ∧ KeepM w w1 M a b c d e N D :=
  ⟨h.2.1.cell 2, h.2.1.cell 3, h.2.1.cell 4, h⟩
end
theorem keepM_of {w w' : World} {M : Nat} {a b c d e : Value} {N D : Nat} {p1 p2 p3 : Prop} (h : p1 ∧ p2 ∧ p3 ∧ KeepM w w' M a b c d e N D) : KeepM w w' M a b c d e N D := h.2.2.2

set_option maxRecDepth 100000 in
set_option maxHeartbeats 3200000 in
theorem implVar_any (A0 : Option Addr) (n cap : Nat) (F : Nat → Int × Bool × ByteArray × ByteArray) (w : World) (hn : n ≤ 1048576) (hA : PtAt w A0 n F) (hs : ∀ j, j < n → (F j).2.2.1.size ≤ 9223372036854775807 ∧ (F j).2.2.2.size ≤ 9223372036854775807) (hU : UnitB w) (hT : Tab64 w) (hP : TabP w) :
    Calls Tryz.prog 44 #[.agg #[.slice A0 n cap]] w fun e w' => e = .returned (varRes F n) ∧ Below w.heap.size w w' := by
  have CM : Hid (∀ W, Below w.heap.size w W → _) := Lib.hid fun W hW => meas_any A0 n cap F W hn (hA.below hW (Nat.le_refl _)) hs (hU.below hW) (hT.below hW)
  have hR := Box.new (w.alloc (.cells #[.slice A0 n cap] 32)) 27 #[.bool false, .string ⟨#[]⟩, .string ⟨#[]⟩]
  rw [show (w.alloc (.cells #[.slice A0 n cap] 32)).heap.size = w.heap.size + 1 by simp] at hR
  have hB := ((Below.refl w.heap.size w).alloc (Nat.le_refl _) (.cells #[.slice A0 n cap] 32)).alloc (by simp) (.cells #[.bool false, .string ⟨#[]⟩, .string ⟨#[]⟩] 27)
  have hd0 := ((Box.new w 32 #[.slice A0 n cap]).alloc (.cells #[.bool false, .string ⟨#[]⟩, .string ⟨#[]⟩] 27)).cell 0
  have HP := Lib.hid hP
  unfold varRes
  cases hv : distOk F n with
  | false =>
    have HV := Lib.hid hv
    clear hv hA hs hU hT hP
    rw [if_neg (by simp)]
    go_enter Tryz.func44, Tryz.ntmps44
    go_upto_region 2 with (go_at_call 65; refine (CM.out _ hB).mono ?_; rintro e w1 ⟨he, hb1⟩; rw [if_neg (by rw [HV.out]; decide)] at he; subst he; unfold noMeas; have hR1 := (hR.below hb1 hR.lt).alloc (.cells #[.slice none 0 0, .slice none 0 0, .bool false, .slice none 0 0, .slice none 0 0] 87); have hB1 := (hB.trans (hb1.mono hB.size)).alloc (hB.trans (hb1.mono hB.size)).size (.cells #[.slice none 0 0, .slice none 0 0, .bool false, .slice none 0 0, .slice none 0 0] 87))
    generalize hW : World.alloc w1 _ = W1 at hR1 hB1 ⊢
    clear hW hb1
    obtain ⟨z0, z1, z2, f0, f1, f2⟩ := hR1.three
    go_quiet (fail)
    go_wp2_with fail
    generalize hW : World.drewN W1 _ = W5
    have hR5 : Box W5 (w.heap.size + 1) 27 #[.bool false, .string ⟨#[]⟩, .string ⟨#[]⟩] := by rw [← hW]; exact hR1
    have hb5 : Below w.heap.size w W5 := by rw [← hW]; exact below_drewN _ hB1
    clear hW
    obtain ⟨m0, m1, m2⟩ := hR5.put3 (.bool false) (.string ⟨#[]⟩) (.string ⟨#[]⟩)
    refine bodyPost_ret (v := noRat) (by simp [results, Tryz.results44, go_sem, noRat, m0, m1, m2]; done) rfl ⟨rfl, ?_⟩
    exact below_put3 hb5 (by omega) _ _ _
  | true =>
    have HV := Lib.hid hv
    obtain ⟨hn6, hok, _⟩ := distOk_parts hv
    have CE : Hid (∀ (A1 : Option Addr) (c1 : Nat) (A2 : Option Addr) (c2 : Nat) (A3 : Option Addr) (l3 c3 : Nat) (A4 : Option Addr) (l4 c4 : Nat) W, Below w.heap.size w W → IntAt W A1 n (fun j => (F j).1) → FracAt W A2 n (massQ F) → _) := Lib.hid fun A1 c1 A2 c2 A3 l3 c3 A4 l4 c4 W hW g1 g2 => variance_any A1 c1 A2 c2 false A3 l3 c3 A4 l4 c4 n F W hn6 hok g1 g2 (hT.below hW)
    obtain ⟨⟨sg, N4, D4⟩, ho4⟩ : ∃ o, o = varQ F n := ⟨_, rfl⟩
    rw [← ho4] at CE ⊢
    have hfl := fit_ln (qOf_fit (ptsOk_rats hok)) (by omega)
    rw [show sumR (qOf (massF F)) 0 n = total F n from rfl] at hfl
    have hone : isOne F n = decide ((total F n).2.1 = (total F n).2.2) := rfl
    obtain ⟨⟨ts, N, D⟩, ho⟩ : ∃ o, o = total F n := ⟨_, rfl⟩
    rw [← ho] at hfl hone
    have Ho := Lib.hid ho
    obtain ⟨hlow, l1, l2⟩ := hfl
    simp only at CE l1 l2 hone ⊢
    have lo : ln WB 1 ≤ 549755813888 := by rw [Num.ln_one WB WB_two]; omega
    have CI : Hid (∀ W, Below w.heap.size w W → Calls Tryz.prog 70 #[.int .i64 1, .int .i64 1] W fun e w' => (∃ v, e = .returned v ∧ IsF w' v false 1 1) ∧ Below W.heap.size W w') := Lib.hid fun W hW => fracInt_one 1 W (hT.below hW) (by omega) (by omega)
    have CC : Hid (∀ (u1 u2 u3 u4 : Value) W, Nums 143 .u64 WB W u1 N → Nums 143 .u64 WB W u2 D → Nums 143 .u64 WB W u3 1 → Nums 143 .u64 WB W u4 1 → _) := Lib.hid fun u1 u2 u3 u4 W g1 g2 g3 g4 => cmpF_any false false u1 u2 u3 u4 N D 1 1 W g1 g2 g3 g4 (by omega) (by omega) lo lo
    have hz1 := cmp_is N D
    obtain ⟨z, hz⟩ : ∃ z, z = cmpR false N D false 1 1 := ⟨_, rfl⟩
    rw [← hz] at CC hz1
    obtain ⟨dv, hdv⟩ : ∃ d, d = decide (N = D) := ⟨_, rfl⟩
    rw [← hdv] at hz1 hone
    rw [hone, Bool.true_and]
    have CR : Hid (∀ (u1 u2 : Value) W, Below w.heap.size w W → Nums 143 .u64 WB W u1 N4 → Nums 143 .u64 WB W u2 D4 → _) := Lib.hid fun u1 u2 W hW g1 g2 => ratF_all sg u1 u2 N4 D4 W (staysP.below _ _ HP.out hW) g1 g2
    obtain ⟨rb, rx, ry, rc, hres⟩ := ratRes_shape sg N4 D4
    rw [hres] at CR ⊢
    clear hv hA hs hU hT hP hres ho4 ho hlow l1 l2 lo hone hz hdv hok
    go_enter Tryz.func44, Tryz.ntmps44
    go_upto_region 2 with (go_at_call 65; refine (CM.out _ hB).mono ?_; rintro e w1 ⟨he, hb1⟩; rw [if_pos HV.out, ← Ho.out] at he; obtain ⟨A1, c1, A2, c2, A3, l3, c3, A4, l4, c4, rfl, gi, gf, _, _, gn, gd⟩ := he; simp only at gn gd)
    have hal := (Below.refl w1.heap.size w1).alloc (Nat.le_refl _) (.cells #[.slice A1 n c1, .slice A2 n c2, .bool false, .slice A3 l3 c3, .slice A4 l4 c4] 87)
    have hM := Box.new w1 87 #[.slice A1 n c1, .slice A2 n c2, .bool false, .slice A3 l3 c3, .slice A4 l4 c4]
    have hR1 := (hR.below hb1 hR.lt).below hal (Nat.lt_of_lt_of_le hR.lt hb1.size)
    have hB1 := (hB.trans (hb1.mono hB.size)).trans (hal.mono (hB.trans (hb1.mono hB.size)).size)
    replace gi := gi.below hal (Nat.le_refl _)
    replace gf := gf.below hal (Nat.le_refl _)
    have hkm : KeepM w _ w1.heap.size (.slice A1 n c1) (.slice A2 n c2) (.bool false) (.slice A3 l3 c3) (.slice A4 l4 c4) N D := ⟨hB1, hM, hR1, gn.below hal (Nat.le_refl _), gd.below hal (Nat.le_refl _)⟩
    obtain ⟨M, hMd⟩ : ∃ M, M = w1.heap.size := ⟨_, rfl⟩
    rw [← hMd] at hkm ⊢
    generalize hW : World.alloc w1 _ = W at hkm gi gf ⊢
    clear hW hMd hal hM hR1 hB1 hb1 gn gd hR hB hd0
    go_cut [19] (fun s wx => s = .bool (!dv) ∧ KeepM w wx M (.slice A1 n c1) (.slice A2 n c2) (.bool false) (.slice A3 l3 c3) (.slice A4 l4 c4) N D ∧ Below W.heap.size W wx)
    case first =>
      go_region_held3 (fun w' => w'.cell? ⟨M, 2, none⟩ = some (.bool false) ∧ w'.cell? ⟨M, 3, none⟩ = some (.slice A3 l3 c3) ∧ w'.cell? ⟨M, 4, none⟩ = some (.slice A4 l4 c4) ∧ KeepM w w' M (.slice A1 n c1) (.slice A2 n c2) (.bool false) (.slice A3 l3 c3) (.slice A4 l4 c4) N D)
        ((refine KeepM.holds ?_; first | exact hkm.drew | exact keepM_of (by assumption) | (refine KeepM.step (keepM_of (by assumption)) ?_; assumption)))
        (first
          | (go_at_call 70; refine (CI.out _ (keepM_of (by assumption)).1).mono ?_; rintro e wa ⟨⟨u, rfl, va, vb, rfl, hva, hvb⟩, hba⟩; obtain ⟨A11, c11, rfl, _, _, _⟩ := RowF.open hva; obtain ⟨A12, c12, rfl, _, _, _⟩ := RowF.open hvb)
          | (go_at_call 97; refine (CC.out _ _ _ _ _ (keepM_of (by assumption)).2.2.2.1 (keepM_of (by assumption)).2.2.2.2 hva hvb).mono ?_; rintro e wb ⟨rfl, hbb⟩))
      all_goals go_wp2_with fail
      all_goals go_meet
      all_goals have h23 := (Below.refl W.heap.size W).drew.trans hba
      all_goals exact ⟨by cases dv <;> simp_all, keepM_of (by assumption), h23.trans (hbb.mono h23.size)⟩
    obtain ⟨rfl, hkc, hbc⟩ := hcut
    replace gi := gi.below hbc (Nat.le_refl _)
    replace gf := gf.below hbc (Nat.le_refl _)
    clear hkm hbc
    obtain ⟨z0, z1, z2, f0, f1, f2⟩ := hkc.2.2.1.three
    obtain ⟨⟨y0, y1, y2, y3, y4⟩, _⟩ := hkc.2.1.five
    cases dv with
    | false =>
      go_wp2_with fail
      obtain ⟨m0, m1, m2⟩ := hkc.2.2.1.put3 (.bool false) (.string ⟨#[]⟩) (.string ⟨#[]⟩)
      refine bodyPost_ret (v := noRat) (by simp [results, Tryz.results44, go_sem, noRat, m0, m1, m2]; done) rfl ⟨rfl, ?_⟩
      exact below_put3 hkc.1 (by omega) _ _ _
    | true =>
      have hR1 := hkc.2.2.1
      have hB1 := hkc.1
      go_wp2_with (first
        | (go_at_call 98; refine (CE.out _ _ _ _ _ _ _ _ _ _ _ hB1 gi gf).mono ?_; rintro e w3 ⟨⟨v, rfl, vn, vd, rfl, gn, gd⟩, hb3⟩; obtain ⟨A7, c7, rfl, _, _, _⟩ := RowF.open gn; obtain ⟨A8, c8, rfl, _, _, _⟩ := RowF.open gd; have hR3 := hR1.below hb3 hR1.lt; have hB3 := hB1.trans (hb3.mono hB1.size))
        | (go_at_call 66; refine (CR.out _ _ _ hB3 gn gd).mono ?_; rintro e w2 ⟨rfl, hb2⟩; have hR2 := hR3.below hb2 hR3.lt; have hB2 := hB3.trans (hb2.mono hB3.size); obtain ⟨z0, z1, z2, f0, f1, f2⟩ := hR2.three))
      obtain ⟨m0, m1, m2⟩ := hR2.put3 (.bool rb) (.string rx) (.string ry)
      refine bodyPost_ret (v := .tuple #[.agg #[.bool rb, .string rx, .string ry], .bool rc]) (by simp [results, Tryz.results44, go_sem, m0, m1, m2]; done) rfl ⟨rfl, ?_⟩
      exact below_put3 hB2 (by omega) _ _ _

end Go.Proofs.YtlfghhmphgidjaaGreatDoor
