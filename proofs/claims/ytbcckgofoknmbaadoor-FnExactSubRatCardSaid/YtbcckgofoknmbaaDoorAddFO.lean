/-
  Several texts in one: AddF, FracO.
-/
import Derived.Test.YtbcckgofoknmbaaDoorSumMulQ
import Derived.Test.YtbcckgofoknmbaaDoorGcdN
import Derived.Test.YtbcckgofoknmbaaDoorPFr
import Derived.Test.YtbcckgofoknmbaaDoorSpecOps
/-
  The program's sum of two fractions, step by step.
-/
namespace Go.Proofs.YtbcckgofoknmbaaDoor
open Go.RowKit Num

theorem digs_one : digs WB 1 = [1] := digs_small WB 1 WB_two (by omega) (by unfold WB; omega)
theorem ln_one : ln WB 1 = 1 := by rw [ln, digs_one]; rfl
theorem nums_nil (w : World) : Nums 64 .u64 WB w (.slice none 0 0) 0 := .inl ⟨rfl, ln_zero WB⟩
theorem nums_new {w : World} {g : Nat} (h : Box w g 64 #[.int .u64 1]) : Nums 64 .u64 WB w (.slice (some ⟨g, 0, none⟩) 1 1) 1 := by
  refine .inr ⟨g, 0, 1, by rw [ln_one], by rw [ln_one]; omega, by unfold maxLen; omega, ⟨_, h⟩, fun j hj => ?_⟩
  rw [ln_one] at hj
  obtain rfl : j = 0 := by omega
  rw [h.cell, digs_one]; rfl

set_option maxRecDepth 100000 in
set_option maxHeartbeats 3200000 in
theorem addF_steps (b1 b2 : Bool) (v1 v2 v3 v4 : Value) (n1 d1 n2 d2 : Nat) (w : World) (h1 : Nums 64 .u64 WB w v1 n1) (h2 : Nums 64 .u64 WB w v2 d1) (h3 : Nums 64 .u64 WB w v3 n2) (h4 : Nums 64 .u64 WB w v4 d2) (hT : Tab64 w)
    (l1 : ln WB n1 ≤ 137438953472) (l2 : ln WB d1 ≤ 137438953472) (l3 : ln WB n2 ≤ 137438953472) (l4 : ln WB d2 ≤ 137438953472) (p1 : 0 < d1) (_p2 : 0 < d2)
    (g qa qb x y : Nat) (hg : g = Nat.gcd d1 d2) (hqa : qa = d2 / g) (hqb : qb = d1 / g) (hx : x = n1 * qa) (hy : y = n2 * qb) (lx : ln WB x ≤ 274877906944) (ly : ln WB y ≤ 274877906944) (h0 : b1 ≠ b2 → 0 < x ∨ 0 < y)
    (sg : Bool) (num : Nat) (hs : sgnSum b1 x b2 y = (sg, num)) (ls : ln WB num ≤ 549755813888) (N D h : Nat) (hh : h = Nat.gcd num g) (hN : N = num / h) (hD : D = qb * (d2 / h)) :
    Calls Tryd.prog 28 #[.agg #[.bool b1, v1, v2], .agg #[.bool b2, v3, v4]] w fun e w' => (∃ v, e = .returned v ∧ (if num = 0 then IsF w' v false 0 1 else IsF w' v sg N D)) ∧ Below w.heap.size w w' := by
  obtain ⟨A1, c1, rfl, _, _, _⟩ := RowF.open h1
  obtain ⟨A2, c2, rfl, _, _, _⟩ := RowF.open h2
  obtain ⟨A3, c3, rfl, _, _, _⟩ := RowF.open h3
  obtain ⟨A4, c4, rfl, _, _, _⟩ := RowF.open h4
  have hA := ((Box.new w 43 #[.bool b1, .slice A1 (ln WB n1) c1, .slice A2 (ln WB d1) c2]).alloc (.cells #[.bool b2, .slice A3 (ln WB n2) c3, .slice A4 (ln WB d2) c4] 43)).alloc (.cells #[.bool false, .slice none 0 0, .slice none 0 0] 43)
  have hQ := (Box.new (w.alloc (.cells #[.bool b1, .slice A1 (ln WB n1) c1, .slice A2 (ln WB d1) c2] 43)) 43 #[.bool b2, .slice A3 (ln WB n2) c3, .slice A4 (ln WB d2) c4]).alloc (.cells #[.bool false, .slice none 0 0, .slice none 0 0] 43)
  have hR := Box.new ((w.alloc (.cells #[.bool b1, .slice A1 (ln WB n1) c1, .slice A2 (ln WB d1) c2] 43)).alloc (.cells #[.bool b2, .slice A3 (ln WB n2) c3, .slice A4 (ln WB d2) c4] 43)) 43 #[.bool false, .slice none 0 0, .slice none 0 0]
  have hB := (((Below.refl w.heap.size w).alloc (Nat.le_refl _) (.cells #[.bool b1, .slice A1 (ln WB n1) c1, .slice A2 (ln WB d1) c2] 43)).alloc (by simp) (.cells #[.bool b2, .slice A3 (ln WB n2) c3, .slice A4 (ln WB d2) c4] 43)).alloc (by simp; omega) (.cells #[.bool false, .slice none 0 0, .slice none 0 0] 43)
  have e0 : ∀ (W : World) (o : Obj), (W.alloc o).heap.size = W.heap.size + 1 := fun W o => by simp
  rw [e0] at hQ
  rw [e0, e0] at hR
  clear e0
  have pg : 0 < g := by rw [hg]; exact Nat.gcd_pos_of_pos_left _ p1
  have ph : 0 < h := by rw [hh]; exact Nat.gcd_pos_of_pos_right _ pg
  have lqb : ln WB qb ≤ 137438953472 := Nat.le_trans (ln_mono WB _ _ WB_two (by rw [hqb]; exact Nat.div_le_self _ _)) l2
  have lqa : ln WB qa ≤ 137438953472 := Nat.le_trans (ln_mono WB _ _ WB_two (by rw [hqa]; exact Nat.div_le_self _ _)) l4
  have lg : ln WB g ≤ 137438953472 := Nat.le_trans (ln_mono WB _ _ WB_two (by rw [hg]; exact Nat.le_of_dvd p1 (Nat.gcd_dvd_left _ _))) l2
  have ldh : ln WB (d2 / h) ≤ 137438953472 := Nat.le_trans (ln_mono WB _ _ WB_two (Nat.div_le_self _ _)) l4
  have H1 := Lib.hid h1
  have H2 := Lib.hid h2
  have H3 := Lib.hid h3
  have H4 := Lib.hid h4
  have HT := Lib.hid hT
  have HB := Lib.hid hB
  have Hg := Lib.hid hg
  have Hqa := Lib.hid hqa
  have Hqb := Lib.hid hqb
  have Hx := Lib.hid hx
  have Hy := Lib.hid hy
  have Hs := Lib.hid hs
  have Hh := Lib.hid hh
  have HN := Lib.hid hN
  have HD := Lib.hid hD
  have H0 := Lib.hid h0
  clear h1 h2 h3 h4 hT hB hg hqa hqb hx hy hs hh hN hD h0
  obtain ⟨r0, r1, r2, _, _, _⟩ := hA.three
  obtain ⟨s0, s1, s2, _, _, _⟩ := hQ.three
  go_enter Tryd.func28, Tryd.ntmps28
  go_upto_region 2 with (go_at_call 38; refine (gcdNats_any _ _ d1 d2 _ (H2.out.below HB.out (Nat.le_refl _)) (H4.out.below HB.out (Nat.le_refl _)) (HT.out.below HB.out) (by omega) (by omega)).mono ?_; rintro e w1 ⟨⟨vg, rfl, hvg⟩, hb1⟩; rw [← Hg.out] at hvg; obtain ⟨Ag, cg, rfl, _, _, _⟩ := RowF.open hvg; replace hA := hA.below hb1 hA.lt; replace hQ := hQ.below hb1 hQ.lt; replace hR := hR.below hb1 hR.lt; replace HB := Lib.hid (HB.out.trans (hb1.mono HB.out.size)); have Hvg := Lib.hid hvg; clear hb1 hvg r0 r1 r2 s0 s1 s2)
  go_cut [6, 7] (fun s6 s7 wx => Nums 64 .u64 WB wx s6 qa ∧ Nums 64 .u64 WB wx s7 qb ∧ Below w1.heap.size w1 wx)
  case first =>
    go_region_held3 (fun w' => w'.cell? ⟨w.heap.size, 0, none⟩ = some (.bool b1) ∧ w'.cell? ⟨w.heap.size, 1, none⟩ = some (.slice A1 (ln WB n1) c1) ∧ w'.cell? ⟨w.heap.size, 2, none⟩ = some (.slice A2 (ln WB d1) c2) ∧ w'.cell? ⟨w.heap.size + 1, 0, none⟩ = some (.bool b2) ∧ w'.cell? ⟨w.heap.size + 1, 1, none⟩ = some (.slice A3 (ln WB n2) c3) ∧ w'.cell? ⟨w.heap.size + 1, 2, none⟩ = some (.slice A4 (ln WB d2) c4) ∧ Below w1.heap.size w1 w')
      ((refine hold6 hA hQ ?_; first | exact (Below.refl _ w1).drew | (refine below_step (hold6_below (by assumption)) ?_; assumption)))
      (first
        | (go_at_call_of 45 (Value.slice A4 (ln WB d2) c4); refine (exact_any _ _ d2 g _ (H4.out.below (HB.out.trans ((hold6_below (by assumption)).mono HB.out.size)) (Nat.le_refl _)) (Hvg.out.below (hold6_below (by assumption)) (Nat.le_refl _)) pg (by omega)).mono ?_; rintro e w2 ⟨⟨u1, rfl, hv1⟩, hb2⟩; have Hv1 := Lib.hid hv1; clear hv1)
        | (go_at_call_of 45 (Value.slice A2 (ln WB d1) c2); refine (exact_any _ _ d1 g _ (H2.out.below (HB.out.trans ((hold6_below (by assumption)).mono HB.out.size)) (Nat.le_refl _)) (Hvg.out.below (hold6_below (by assumption)) (Nat.le_refl _)) pg (by omega)).mono ?_; rintro e w3 ⟨⟨u2, rfl, hv2⟩, hb3⟩; have Hv2 := Lib.hid hv2; clear hv2))
    all_goals go_wp2_with fail
    all_goals go_meet
    all_goals rw [Hqa.out, Hqb.out]
    all_goals first
      | exact ⟨Hv1.out.below hb3 (Nat.le_refl _), Hv2.out, hold6_below (by assumption)⟩
      | exact ⟨Hv1.out, Hv2.out.below hb2 (Nat.le_refl _), hold6_below (by assumption)⟩
  obtain ⟨h6, h7, hbc⟩ := hcut
  obtain ⟨A6, c6, rfl, _, _, _⟩ := RowF.open h6
  obtain ⟨A7, c7, rfl, _, _, _⟩ := RowF.open h7
  replace hA := hA.below hbc hA.lt
  replace hQ := hQ.below hbc hQ.lt
  replace hR := hR.below hbc hR.lt
  replace HB := Lib.hid (HB.out.trans (hbc.mono HB.out.size))
  replace Hvg := Lib.hid (Hvg.out.below hbc (Nat.le_refl _))
  have H6 := Lib.hid h6
  have H7 := Lib.hid h7
  clear hbc h6 h7
  go_upto_region 3 with fail
  go_cut [8, 9] (fun s8 s9 wx => Nums 64 .u64 WB wx s8 x ∧ Nums 64 .u64 WB wx s9 y ∧ Below wc.heap.size wc wx)
  case first =>
    go_region_held3 (fun w' => w'.cell? ⟨w.heap.size, 0, none⟩ = some (.bool b1) ∧ w'.cell? ⟨w.heap.size, 1, none⟩ = some (.slice A1 (ln WB n1) c1) ∧ w'.cell? ⟨w.heap.size, 2, none⟩ = some (.slice A2 (ln WB d1) c2) ∧ w'.cell? ⟨w.heap.size + 1, 0, none⟩ = some (.bool b2) ∧ w'.cell? ⟨w.heap.size + 1, 1, none⟩ = some (.slice A3 (ln WB n2) c3) ∧ w'.cell? ⟨w.heap.size + 1, 2, none⟩ = some (.slice A4 (ln WB d2) c4) ∧ Below wc.heap.size wc w')
      ((refine hold6 hA hQ ?_; first | exact (Below.refl _ wc).drew | (refine below_step (hold6_below (by assumption)) ?_; assumption)))
      (first
        | (go_at_call_of 46 (Value.slice A1 (ln WB n1) c1); refine (mulNats_any _ _ n1 qa _ (H1.out.below (HB.out.trans ((hold6_below (by assumption)).mono HB.out.size)) (Nat.le_refl _)) (H6.out.below (hold6_below (by assumption)) (Nat.le_refl _)) (by omega) (by omega)).mono ?_; rintro e w2 ⟨⟨u1, rfl, hv1⟩, hb2⟩; have Hv1 := Lib.hid hv1; clear hv1)
        | (go_at_call_of 46 (Value.slice A3 (ln WB n2) c3); refine (mulNats_any _ _ n2 qb _ (H3.out.below (HB.out.trans ((hold6_below (by assumption)).mono HB.out.size)) (Nat.le_refl _)) (H7.out.below (hold6_below (by assumption)) (Nat.le_refl _)) (by omega) (by omega)).mono ?_; rintro e w3 ⟨⟨u2, rfl, hv2⟩, hb3⟩; have Hv2 := Lib.hid hv2; clear hv2))
    all_goals go_wp2_with fail
    all_goals go_meet
    all_goals rw [Hx.out, Hy.out]
    all_goals first
      | exact ⟨Hv1.out.below hb3 (Nat.le_refl _), Hv2.out, hold6_below (by assumption)⟩
      | exact ⟨Hv1.out, Hv2.out.below hb2 (Nat.le_refl _), hold6_below (by assumption)⟩
  obtain ⟨h8, h9, hbc⟩ := hcut
  obtain ⟨A8, c8, rfl, _, _, _⟩ := RowF.open h8
  obtain ⟨A9, c9, rfl, _, _, _⟩ := RowF.open h9
  replace hA := hA.below hbc hA.lt
  replace hQ := hQ.below hbc hQ.lt
  replace hR := hR.below hbc hR.lt
  replace HB := Lib.hid (HB.out.trans (hbc.mono HB.out.size))
  replace Hvg := Lib.hid (Hvg.out.below hbc (Nat.le_refl _))
  replace H7 := Lib.hid (H7.out.below hbc (Nat.le_refl _))
  have H8 := Lib.hid h8
  have H9 := Lib.hid h9
  clear hbc h8 h9 H6
  obtain ⟨r0, r1, r2, _, _, _⟩ := hA.three
  obtain ⟨s0, s1, s2, _, _, _⟩ := hQ.three
  by_cases hn0 : num = 0
  · have hl0 : ((ln WB num : Nat) : Int) = 0 := by rw [hn0, ln_zero]; rfl
    go_wp2_with (go_at_call 47; refine (addSigned_any b1 b2 _ _ x y _ H8.out H9.out (by omega) (by omega) H0.out).mono ?_; rintro e w5 ⟨⟨vs, rfl, hvs⟩, hb5⟩; rw [Hs.out] at hvs ⊢; obtain ⟨An, cn, rfl, _, _, _⟩ := RowF.open hvs; replace hR := hR.below hb5 hR.lt; replace HB := Lib.hid (HB.out.trans (hb5.mono HB.out.size)); obtain ⟨z0, z1, z2, f0, f1, f2⟩ := (hR.alloc (.cells #[.int .u64 1] 64)).three; clear hb5)
    have hz := hR.alloc (.cells #[.int .u64 1] 64)
    have hn := nums_new (Box.new w5 64 #[.int .u64 1])
    obtain ⟨m0, m1, m2⟩ := hz.put3 (.bool false) (.slice none 0 0) (.slice (some ⟨w5.heap.size, 0, none⟩) 1 1)
    refine bodyPost_ret (v := .agg #[.bool false, .slice none 0 0, .slice (some ⟨w5.heap.size, 0, none⟩) 1 1]) (by simp [results, Tryd.results28, go_sem, m0, m1, m2]; done) rfl ?_
    exact ⟨⟨_, rfl, ⟨_, _, rfl, nums_nil _, Nums.put3 hn hz (by decide) _ _ _⟩⟩, below_put3 (HB.out.alloc HB.out.size _) (by omega) _ _ _⟩
  · have hl0 : (((ln WB num : Nat) : Int) == 0) = false := by have := lnz (b := WB) WB_two (by omega : 0 < num); simp; omega
    go_upto_region 8 with (first
      | (go_at_call 47; refine (addSigned_any b1 b2 _ _ x y _ H8.out H9.out (by omega) (by omega) H0.out).mono ?_; rintro e w5 ⟨⟨vs, rfl, hvs⟩, hb5⟩; rw [Hs.out] at hvs ⊢; obtain ⟨An, cn, rfl, _, _, _⟩ := RowF.open hvs; replace hA := hA.below hb5 hA.lt; replace hQ := hQ.below hb5 hQ.lt; replace hR := hR.below hb5 hR.lt; replace HB := Lib.hid (HB.out.trans (hb5.mono HB.out.size)); replace Hvg := Lib.hid (Hvg.out.below hb5 (Nat.le_refl _)); replace H7 := Lib.hid (H7.out.below hb5 (Nat.le_refl _)); have Hn := Lib.hid hvs; clear hb5 hvs r0 r1 r2 s0 s1 s2)
      | (go_at_call 38; refine (gcdNats_any _ _ num g _ Hn.out Hvg.out (HT.out.below HB.out) ls (by omega)).mono ?_; rintro e w6 ⟨⟨vh, rfl, hvh⟩, hb6⟩; rw [← Hh.out] at hvh; obtain ⟨Ah, ch, rfl, _, _, _⟩ := RowF.open hvh; replace hA := hA.below hb6 hA.lt; replace hQ := hQ.below hb6 hQ.lt; replace hR := hR.below hb6 hR.lt; replace HB := Lib.hid (HB.out.trans (hb6.mono HB.out.size)); replace Hn := Lib.hid (Hn.out.below hb6 (Nat.le_refl _)); replace H7 := Lib.hid (H7.out.below hb6 (Nat.le_refl _)); have Hvh := Lib.hid hvh; clear hb6 hvh))
    have hsz : w.heap.size + 1 + 1 ≤ w6.heap.size := by have := hR.lt; omega
    have hq0 : Boxy w6 (w.heap.size + 1 + 1) 43 := ⟨_, _, _, hR⟩
    go_region_held3 (fun w' => w'.cell? ⟨w.heap.size, 0, none⟩ = some (.bool b1) ∧ w'.cell? ⟨w.heap.size, 1, none⟩ = some (.slice A1 (ln WB n1) c1) ∧ w'.cell? ⟨w.heap.size, 2, none⟩ = some (.slice A2 (ln WB d1) c2) ∧ w'.cell? ⟨w.heap.size + 1, 0, none⟩ = some (.bool b2) ∧ w'.cell? ⟨w.heap.size + 1, 1, none⟩ = some (.slice A3 (ln WB n2) c3) ∧ w'.cell? ⟨w.heap.size + 1, 2, none⟩ = some (.slice A4 (ln WB d2) c4) ∧ Below (w.heap.size + 1 + 1) w6 w' ∧ Boxy w' (w.heap.size + 1 + 1) 43)
      ((refine hold6B hA hQ (by omega) (by omega) ?_ ?_ <;> first | exact (Below.refl _ w6).drew | exact hq0.below (Below.refl _ w6).drew | (refine stepB hsz (hold6B_below (by assumption)) ?_; assumption) | (refine Boxy.below (hold6B_boxy (by assumption)) ?_; assumption) | exact newB hsz (hold6B_below (by assumption)) _ | exact boxy_alloc (hold6B_boxy (by assumption)) _ | exact below_put3 (hold6B_below (by assumption)) (Nat.le_refl _) _ _ _ | exact Boxy.put (hold6B_boxy (by assumption)) _ _ _))
      (first
        | (go_at_call_of 45 (Value.slice An (ln WB num) cn); refine (exact_any _ _ num h _ (Hn.out.below (Below.refl _ w6).drew (Nat.le_refl _)) (Hvh.out.below (Below.refl _ w6).drew (Nat.le_refl _)) ph ls).mono ?_; rintro e w7 ⟨⟨u1, rfl, hv1⟩, hb7⟩; have hb7' : Below w6.heap.size w6 w7 := below_of_drew hb7; have Hvh7 := Lib.hid (Hvh.out.below hb7' (Nat.le_refl _)); have H77 := Lib.hid (H7.out.below hb7' (Nat.le_refl _)); have HB7 := Lib.hid (HB.out.trans (hb7'.mono HB.out.size)); rw [← HN.out] at hv1; obtain ⟨Am, cm, rfl, _, _, _⟩ := RowF.open hv1; have HM := Lib.hid hv1; clear hv1 hb7')
        | (go_at_call_of 45 (Value.slice A4 (ln WB d2) c4); refine (exact_any _ _ d2 h _ (H4.out.below HB7.out (Nat.le_refl _)) Hvh7.out ph (by omega)).mono ?_; rintro e w8 ⟨⟨u2, rfl, hv2⟩, hb8⟩; have Hv2 := Lib.hid hv2; have H78 := Lib.hid (H77.out.below hb8 (Nat.le_refl _)); have HM8 := Lib.hid (HM.out.below hb8 (Nat.le_refl _)); clear hv2)
        | (go_at_call 46; refine (mulNats_any _ _ qb (d2 / h) _ H78.out Hv2.out (by omega) (by omega)).mono ?_; rintro e w9 ⟨⟨u3, rfl, hv3⟩, hb9⟩; rw [← HD.out] at hv3; obtain ⟨q0, q1, q2, hz⟩ := Boxy.below (hold6B_boxy (by assumption)) hb9; obtain ⟨z0, z1, z2, f0, f1, f2⟩ := hz.three; obtain ⟨Ad, cd, rfl, _, _, _⟩ := RowF.open hv3; have HDv := Lib.hid hv3; have HM9 := Lib.hid (HM8.out.below hb9 (Nat.le_refl _)); clear hv3))
    go_wp2_with fail
    obtain ⟨m0, m1, m2⟩ := hz.put3 (.bool sg) (.slice Am (ln WB N) cm) (.slice Ad (ln WB D) cd)
    refine bodyPost_ret (v := .agg #[.bool sg, .slice Am (ln WB N) cm, .slice Ad (ln WB D) cd]) (by simp [results, Tryd.results28, go_sem, m0, m1, m2]; done) rfl ?_
    exact ⟨⟨_, rfl, ⟨_, _, rfl, Nums.put3 HM9.out hz (by decide) _ _ _, Nums.put3 HDv.out hz (by decide) _ _ _⟩⟩, under HB.out (hold6B_below (by assumption))⟩

end Go.Proofs.YtbcckgofoknmbaaDoor
/-
  What the operations on fractions come to: one word for the model and the program.
-/
namespace Go.Proofs.YtbcckgofoknmbaaDoor
open Go.RowKit Num

/-- The sum, in lowest terms. -/
def addO (b1 : Bool) (n1 d1 : Nat) (b2 : Bool) (n2 d2 : Nat) : Bool × Nat × Nat :=
  let s := sgnSum b1 (n1 * d2) b2 (n2 * d1)
  (s.1 && decide (0 < s.2), s.2 / Nat.gcd s.2 (d1 * d2), d1 * d2 / Nat.gcd s.2 (d1 * d2))
/-- The product, in lowest terms. -/
def mulO (b1 : Bool) (n1 d1 : Nat) (b2 : Bool) (n2 d2 : Nat) : Bool × Nat × Nat :=
  ((b1 != b2) && decide (0 < n1 * n2), n1 * n2 / Nat.gcd (n1 * n2) (d1 * d2), d1 * d2 / Nat.gcd (n1 * n2) (d1 * d2))

theorem sgn_scale (a b : Bool) (x y g : Nat) (hg : 0 < g) : sgnSum a (x * g) b (y * g) = ((sgnSum a x b y).1, (sgnSum a x b y).2 * g) := by
  unfold sgnSum
  by_cases h : a = b
  · simp only [if_pos h]; rw [Nat.add_mul]
  · simp only [if_neg h]
    by_cases h2 : x < y
    · rw [if_pos (Nat.mul_lt_mul_of_pos_right h2 hg), if_pos h2]; simp only; rw [Nat.sub_mul]
    · rw [if_neg (by have := Nat.mul_le_mul_right g (Nat.le_of_not_lt h2); omega), if_neg h2]; simp only; rw [Nat.sub_mul]

theorem sgn_combo (a b : Bool) (x y : Nat) : Fracs.Combo (sgnSum a x b y).2 x y := by
  unfold sgnSum Fracs.Combo
  split
  · left; rfl
  · split
    · right; right; simp only; omega
    · right; left; simp only; omega

theorem low_gcd {a b : Nat} (hb : 0 < b) : Nat.gcd (a / Nat.gcd a b) (b / Nat.gcd a b) = 1 :=
  Nat.coprime_div_gcd_div_gcd (Nat.gcd_pos_of_pos_right _ hb)
theorem low_pos {a b : Nat} (hb : 0 < b) : 0 < b / Nat.gcd a b := Nat.div_pos (Nat.le_of_dvd hb (Nat.gcd_dvd_right _ _)) (Nat.gcd_pos_of_pos_right _ hb)
theorem low_num {a b : Nat} (ha : 0 < a) (hb : 0 < b) : 0 < a / Nat.gcd a b := Nat.div_pos (Nat.le_of_dvd ha (Nat.gcd_dvd_left _ _)) (Nat.gcd_pos_of_pos_right _ hb)

theorem addO_zero (b1 : Bool) (n1 d1 : Nat) (b2 : Bool) (n2 d2 : Nat) (p1 : 0 < d1) (p2 : 0 < d2) (h : (sgnSum b1 (n1 * d2) b2 (n2 * d1)).2 = 0) : addO b1 n1 d1 b2 n2 d2 = (false, 0, 1) := by
  unfold addO
  simp only [h, Nat.gcd_zero_left, Nat.zero_div]
  rw [Nat.div_self (Nat.mul_pos p1 p2)]
  simp

/-- The program's way to the sum comes to the same. -/
theorem add_bridge (b1 : Bool) (n1 d1 : Nat) (b2 : Bool) (n2 d2 : Nat) (p1 : 0 < d1) (p2 : 0 < d2) (k1 : Nat.gcd n1 d1 = 1) (k2 : Nat.gcd n2 d2 = 1) (g : Nat) (hg : g = Nat.gcd d1 d2)
    (sg : Bool) (num : Nat) (hs : sgnSum b1 (n1 * (d2 / g)) b2 (n2 * (d1 / g)) = (sg, num)) :
    (num = 0 → addO b1 n1 d1 b2 n2 d2 = (false, 0, 1)) ∧ (num ≠ 0 → addO b1 n1 d1 b2 n2 d2 = (sg, num / Nat.gcd num g, d1 / g * (d2 / Nat.gcd num g))) := by
  have pg : 0 < g := by rw [hg]; exact Nat.gcd_pos_of_pos_left _ p1
  have e1 : n1 * d2 = n1 * (d2 / g) * g := by rw [Nat.mul_assoc, Nat.div_mul_cancel (by rw [hg]; exact Nat.gcd_dvd_right _ _)]
  have e2 : n2 * d1 = n2 * (d1 / g) * g := by rw [Nat.mul_assoc, Nat.div_mul_cancel (by rw [hg]; exact Nat.gcd_dvd_left _ _)]
  have e3 : sgnSum b1 (n1 * d2) b2 (n2 * d1) = (sg, num * g) := by rw [e1, e2, sgn_scale _ _ _ _ _ pg, hs]
  constructor
  · intro h0
    exact addO_zero b1 n1 d1 b2 n2 d2 p1 p2 (by rw [e3, h0]; simp)
  · intro h0
    have hc : Fracs.Combo num (n1 * (d2 / Nat.gcd d1 d2)) (n2 * (d1 / Nat.gcd d1 d2)) := by
      have := sgn_combo b1 b2 (n1 * (d2 / g)) (n2 * (d1 / g))
      rw [hs] at this
      rw [← hg]; exact this
    obtain ⟨N, _, hN, hq1, hq2⟩ := Fracs.sum p1 p2 k1 k2 hc
    rw [← hg] at hN hq1 hq2
    unfold addO
    simp only [e3]
    have hpos : 0 < num * g := Nat.mul_pos (by omega) pg
    rw [decide_eq_true hpos, Bool.and_true, ← hN, hq1, hq2]

theorem mul_bridge (b1 : Bool) (n1 d1 : Nat) (b2 : Bool) (n2 d2 : Nat) (p1 : 0 < d1) (p2 : 0 < d2) (k1 : Nat.gcd n1 d1 = 1) (k2 : Nat.gcd n2 d2 = 1) :
    mulO b1 n1 d1 b2 n2 d2 = ((b1 != b2) && decide (0 < n1 * n2), n1 / Nat.gcd n1 d2 * (n2 / Nat.gcd n2 d1), d1 / Nat.gcd n2 d1 * (d2 / Nat.gcd n1 d2)) := by
  obtain ⟨h1, h2⟩ := Fracs.product p1 p2 k1 k2
  unfold mulO
  rw [h1, h2]

theorem ln_div_le (n k m : Nat) (h : ln WB n ≤ m) : ln WB (n / k) ≤ m := Nat.le_trans (ln_mono WB _ _ WB_two (Nat.div_le_self _ _)) h

/-- The program's sum of two fractions. -/
theorem addF_any (b1 b2 : Bool) (v1 v2 v3 v4 : Value) (n1 d1 n2 d2 : Nat) (w : World) (h1 : Nums 64 .u64 WB w v1 n1) (h2 : Nums 64 .u64 WB w v2 d1) (h3 : Nums 64 .u64 WB w v3 n2) (h4 : Nums 64 .u64 WB w v4 d2) (hT : Tab64 w)
    (l1 : ln WB n1 ≤ 68719476736) (l2 : ln WB d1 ≤ 68719476736) (l3 : ln WB n2 ≤ 68719476736) (l4 : ln WB d2 ≤ 68719476736) (p1 : 0 < d1) (p2 : 0 < d2) (k1 : Nat.gcd n1 d1 = 1) (k2 : Nat.gcd n2 d2 = 1) (z1 : n1 = 0 → b1 = false) (z2 : n2 = 0 → b2 = false)
    (sg : Bool) (N D : Nat) (ho : addO b1 n1 d1 b2 n2 d2 = (sg, N, D)) :
    Calls Tryd.prog 28 #[.agg #[.bool b1, v1, v2], .agg #[.bool b2, v3, v4]] w fun e w' => (∃ v, e = .returned v ∧ IsF w' v sg N D) ∧ Below w.heap.size w w' := by
  obtain ⟨g, hg⟩ : ∃ g, g = Nat.gcd d1 d2 := ⟨_, rfl⟩
  obtain ⟨⟨s, num⟩, hs⟩ : ∃ p, sgnSum b1 (n1 * (d2 / g)) b2 (n2 * (d1 / g)) = p := ⟨_, rfl⟩
  have pg : 0 < g := by rw [hg]; exact Nat.gcd_pos_of_pos_left _ p1
  have qa : 0 < d2 / g := by rw [hg]; exact Nat.div_pos (Nat.le_of_dvd p2 (Nat.gcd_dvd_right _ _)) (by rw [← hg]; exact pg)
  have qb : 0 < d1 / g := by rw [hg]; exact Nat.div_pos (Nat.le_of_dvd p1 (Nat.gcd_dvd_left _ _)) (by rw [← hg]; exact pg)
  have lx : ln WB (n1 * (d2 / g)) ≤ 137438953472 := Nat.le_trans (ln_mul WB _ _ WB_two) (by have := ln_div_le d2 g _ l4; omega)
  have ly : ln WB (n2 * (d1 / g)) ≤ 137438953472 := Nat.le_trans (ln_mul WB _ _ WB_two) (by have := ln_div_le d1 g _ l2; omega)
  have h0 : b1 ≠ b2 → 0 < n1 * (d2 / g) ∨ 0 < n2 * (d1 / g) := by
    intro hne
    rcases Nat.eq_zero_or_pos n1 with e | e
    · rcases Nat.eq_zero_or_pos n2 with e' | e'
      · exact absurd ((z1 e).trans (z2 e').symm) hne
      · right; exact Nat.mul_pos e' qb
    · left; exact Nat.mul_pos e qa
  have ls : ln WB num ≤ 549755813888 := by
    have hc := sgn_combo b1 b2 (n1 * (d2 / g)) (n2 * (d1 / g))
    rw [hs] at hc
    have hle : num ≤ n1 * (d2 / g) + n2 * (d1 / g) := by rcases hc with h | h | h <;> simp only at h <;> omega
    refine Nat.le_trans (ln_mono WB _ _ WB_two hle) (Nat.le_trans (ln_add WB _ _ WB_two) ?_)
    omega
  obtain ⟨hz, hnz⟩ := add_bridge b1 n1 d1 b2 n2 d2 p1 p2 k1 k2 g hg s num hs
  refine (addF_steps b1 b2 v1 v2 v3 v4 n1 d1 n2 d2 w h1 h2 h3 h4 hT (by omega) (by omega) (by omega) (by omega) p1 p2 g _ _ _ _ hg rfl rfl rfl rfl (by omega) (by omega) h0 s num hs ls _ _ _ rfl rfl rfl).mono ?_
  rintro e w' ⟨⟨v, rfl, hv⟩, hb⟩
  refine ⟨⟨v, rfl, ?_⟩, hb⟩
  by_cases hn : num = 0
  · rw [if_pos hn] at hv
    have := ho.symm.trans (hz hn)
    simp only [Prod.mk.injEq] at this
    obtain ⟨rfl, rfl, rfl⟩ := this
    exact hv
  · rw [if_neg hn] at hv
    have := ho.symm.trans (hnz hn)
    simp only [Prod.mk.injEq] at this
    obtain ⟨rfl, rfl, rfl⟩ := this
    exact hv

end Go.Proofs.YtbcckgofoknmbaaDoor
