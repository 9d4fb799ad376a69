/-
  The program's product of two fractions: unequal signs, the first zero. (Written by gen_mulf.py.)
-/
import Derived.Test.YtlfghhmphgidjaaGreatDoorImplSum
namespace Go.Proofs.YtlfghhmphgidjaaGreatDoor
open Go.RowKit Num

set_option maxRecDepth 100000 in
set_option maxHeartbeats 6400000 in
theorem mulF_B (b1 b2 : Bool) (v1 v2 v3 v4 : Value) (n1 d1 n2 d2 : Nat) (w : World) (h1 : Nums 143 .u64 WB w v1 n1) (h2 : Nums 143 .u64 WB w v2 d1) (h3 : Nums 143 .u64 WB w v3 n2) (h4 : Nums 143 .u64 WB w v4 d2) (hT : Tab64 w)
    (l1 : ln WB n1 ≤ 137438953472) (l2 : ln WB d1 ≤ 137438953472) (l3 : ln WB n2 ≤ 137438953472) (l4 : ln WB d2 ≤ 137438953472) (p1 : 0 < d1) (p2 : 0 < d2) (heq : (b1 == b2) = false) (hz1 : n1 = 0)
    (g h N D : Nat) (hg : g = Nat.gcd n1 d2) (hh : h = Nat.gcd n2 d1) (hN : N = n1 / g * (n2 / h)) (hD : D = d1 / h * (d2 / g)) :
    Calls Tryz.prog 93 #[.agg #[.bool b1, v1, v2], .agg #[.bool b2, v3, v4]] w fun e w' => (∃ v, e = .returned v ∧ IsF w' v false N D) ∧ Below w.heap.size w w' := by
  have Z1 : Hid (∀ W, Below w.heap.size w W → _) := Lib.hid fun W hW => isZero_any b1 v1 v2 n1 d1 W (h1.below hW (Nat.le_refl _)) (h2.below hW (Nat.le_refl _))
  rw [decide_eq_true hz1] at Z1
  clear hz1
  have hne : (!b1 == b2) = true := by rw [heq]; rfl
  obtain ⟨A1, c1, rfl, _, _, _⟩ := RowF.open h1
  obtain ⟨A2, c2, rfl, _, _, _⟩ := RowF.open h2
  obtain ⟨A3, c3, rfl, _, _, _⟩ := RowF.open h3
  obtain ⟨A4, c4, rfl, _, _, _⟩ := RowF.open h4
  have hA := ((Box.new w 85 #[.bool b1, .slice A1 (ln WB n1) c1, .slice A2 (ln WB d1) c2]).alloc (.cells #[.bool b2, .slice A3 (ln WB n2) c3, .slice A4 (ln WB d2) c4] 85)).alloc (.cells #[.bool false, .slice none 0 0, .slice none 0 0] 85)
  have hQ := (Box.new (w.alloc (.cells #[.bool b1, .slice A1 (ln WB n1) c1, .slice A2 (ln WB d1) c2] 85)) 85 #[.bool b2, .slice A3 (ln WB n2) c3, .slice A4 (ln WB d2) c4]).alloc (.cells #[.bool false, .slice none 0 0, .slice none 0 0] 85)
  have hR := Box.new ((w.alloc (.cells #[.bool b1, .slice A1 (ln WB n1) c1, .slice A2 (ln WB d1) c2] 85)).alloc (.cells #[.bool b2, .slice A3 (ln WB n2) c3, .slice A4 (ln WB d2) c4] 85)) 85 #[.bool false, .slice none 0 0, .slice none 0 0]
  have hB := (((Below.refl w.heap.size w).alloc (Nat.le_refl _) (.cells #[.bool b1, .slice A1 (ln WB n1) c1, .slice A2 (ln WB d1) c2] 85)).alloc (by simp) (.cells #[.bool b2, .slice A3 (ln WB n2) c3, .slice A4 (ln WB d2) c4] 85)).alloc (by simp; omega) (.cells #[.bool false, .slice none 0 0, .slice none 0 0] 85)
  have e0 : ∀ (W : World) (o : Obj), (W.alloc o).heap.size = W.heap.size + 1 := fun W o => by simp
  rw [e0] at hQ
  rw [e0, e0] at hR
  clear e0
  have pg : 0 < g := by rw [hg]; exact Nat.gcd_pos_of_pos_right _ p2
  have ph : 0 < h := by rw [hh]; exact Nat.gcd_pos_of_pos_right _ p1
  have ln1 : ln WB (n1 / g) ≤ 137438953472 := Nat.le_trans (ln_mono WB _ _ WB_two (Nat.div_le_self _ _)) l1
  have ln2 : ln WB (n2 / h) ≤ 137438953472 := Nat.le_trans (ln_mono WB _ _ WB_two (Nat.div_le_self _ _)) l3
  have ln3 : ln WB (d1 / h) ≤ 137438953472 := Nat.le_trans (ln_mono WB _ _ WB_two (Nat.div_le_self _ _)) l2
  have ln4 : ln WB (d2 / g) ≤ 137438953472 := Nat.le_trans (ln_mono WB _ _ WB_two (Nat.div_le_self _ _)) l4
  have H1 := Lib.hid h1
  have H2 := Lib.hid h2
  have H3 := Lib.hid h3
  have H4 := Lib.hid h4
  have HT := Lib.hid hT
  have HB := Lib.hid hB
  have Hg := Lib.hid hg
  have Hh := Lib.hid hh
  have HN := Lib.hid hN
  have HD := Lib.hid hD
  clear h1 h2 h3 h4 hT hB hg hh hN hD
  obtain ⟨r0, r1, r2, _, _, _⟩ := hA.three
  obtain ⟨s0, s1, s2, _, _, _⟩ := hQ.three
  go_enter Tryz.func93, Tryz.ntmps93
  go_upto_region 1 with fail
  obtain ⟨W, hW⟩ : ∃ W, W = ((w.alloc (.cells #[.bool b1, .slice A1 (ln WB n1) c1, .slice A2 (ln WB d1) c2] 85)).alloc (.cells #[.bool b2, .slice A3 (ln WB n2) c3, .slice A4 (ln WB d2) c4] 85)).alloc (.cells #[.bool false, .slice none 0 0, .slice none 0 0] 85) := ⟨_, rfl⟩
  rw [← hW] at hA hQ hR HB r0 r1 r2 s0 s1 s2 ⊢
  clear hW
  go_cut [5, 6] (fun s5 s6 wx => Nums 143 .u64 WB wx s5 g ∧ Nums 143 .u64 WB wx s6 h ∧ Below W.heap.size W wx)
  case first =>
    go_region_held3 (fun w' => w'.cell? ⟨w.heap.size, 0, none⟩ = some (.bool b1) ∧ w'.cell? ⟨w.heap.size, 1, none⟩ = some (.slice A1 (ln WB n1) c1) ∧ w'.cell? ⟨w.heap.size, 2, none⟩ = some (.slice A2 (ln WB d1) c2) ∧ w'.cell? ⟨w.heap.size + 1, 0, none⟩ = some (.bool b2) ∧ w'.cell? ⟨w.heap.size + 1, 1, none⟩ = some (.slice A3 (ln WB n2) c3) ∧ w'.cell? ⟨w.heap.size + 1, 2, none⟩ = some (.slice A4 (ln WB d2) c4) ∧ Below W.heap.size W w')
      ((refine hold6 hA hQ ?_; first | exact (Below.refl _ W).drew | (refine below_step (hold6_below (by assumption)) ?_; assumption)))
      (first
        | (go_at_call_of 140 (Value.slice A1 (ln WB n1) c1); refine (gcdNats_any _ _ n1 d2 _ (H1.out.below (HB.out.trans ((hold6_below (by assumption)).mono HB.out.size)) (Nat.le_refl _)) (H4.out.below (HB.out.trans ((hold6_below (by assumption)).mono HB.out.size)) (Nat.le_refl _)) (HT.out.below (HB.out.trans ((hold6_below (by assumption)).mono HB.out.size))) (by omega) (by omega)).mono ?_; rintro e w2 ⟨⟨u1, rfl, hv1⟩, hb2⟩; have Hv1 := Lib.hid hv1; clear hv1)
        | (go_at_call_of 140 (Value.slice A3 (ln WB n2) c3); refine (gcdNats_any _ _ n2 d1 _ (H3.out.below (HB.out.trans ((hold6_below (by assumption)).mono HB.out.size)) (Nat.le_refl _)) (H2.out.below (HB.out.trans ((hold6_below (by assumption)).mono HB.out.size)) (Nat.le_refl _)) (HT.out.below (HB.out.trans ((hold6_below (by assumption)).mono HB.out.size))) (by omega) (by omega)).mono ?_; rintro e w3 ⟨⟨u2, rfl, hv2⟩, hb3⟩; have Hv2 := Lib.hid hv2; clear hv2))
    all_goals go_wp2_with fail
    all_goals go_meet
    all_goals rw [Hg.out, Hh.out]
    all_goals first
      | exact ⟨Hv1.out.below hb3 (Nat.le_refl _), Hv2.out, hold6_below (by assumption)⟩
      | exact ⟨Hv1.out, Hv2.out.below hb2 (Nat.le_refl _), hold6_below (by assumption)⟩
  obtain ⟨h6, h7, hbc⟩ := hcut
  obtain ⟨A6, c6, rfl, _, _, _⟩ := RowF.open h6
  obtain ⟨A7, c7, rfl, _, _, _⟩ := RowF.open h7
  replace hA := hA.below hbc hA.lt
  replace hQ := hQ.below hbc hQ.lt
  replace hR := hR.below hbc hR.lt
  replace HB := Lib.hid (HB.out.trans (hbc.mono HB.out.size))
  have Hvg := Lib.hid h6
  have Hvh := Lib.hid h7
  clear hbc h6 h7 r0 r1 r2 s0 s1 s2
  obtain ⟨r0, r1, r2, _, _, _⟩ := hA.three
  obtain ⟨s0, s1, s2, _, _, _⟩ := hQ.three
  go_upto_region 2 with fail
  have hsz : w.heap.size + 1 + 1 ≤ wc.heap.size := by have := hR.lt; omega
  have hq0 : Boxy wc (w.heap.size + 1 + 1) 85 := ⟨_, _, _, hR⟩
  refine wp_region_held_drew (S := (fun w' => w'.cell? ⟨w.heap.size, 0, none⟩ = some (.bool b1) ∧ w'.cell? ⟨w.heap.size, 1, none⟩ = some (.slice A1 (ln WB n1) c1) ∧ w'.cell? ⟨w.heap.size, 2, none⟩ = some (.slice A2 (ln WB d1) c2) ∧ w'.cell? ⟨w.heap.size + 1, 0, none⟩ = some (.bool b2) ∧ w'.cell? ⟨w.heap.size + 1, 1, none⟩ = some (.slice A3 (ln WB n2) c3) ∧ w'.cell? ⟨w.heap.size + 1, 2, none⟩ = some (.slice A4 (ln WB d2) c4) ∧ Below (w.heap.size + 1 + 1) wc w' ∧ Boxy w' (w.heap.size + 1 + 1) 85)) (by kernel_rfl) ?_ (fun hHeld => ?_)
  · (try dsimp only); (refine hold6B hA hQ (by omega) (by omega) ?_ ?_ <;> first | exact (Below.refl _ wc).drew | exact hq0.below (Below.refl _ wc).drew | exact hold6B_below (by assumption) | exact hold6B_boxy (by assumption) | (refine stepB hsz (hold6B_below (by assumption)) ?_; assumption) | (refine Boxy.below (hold6B_boxy (by assumption)) ?_; assumption) | exact below_put3 (hold6B_below (by assumption)) (Nat.le_refl _) _ _ _ | exact Boxy.put (hold6B_boxy (by assumption)) _ _ _)
  refine wpAnyH_take (i := 0) (v := .pointer (some ⟨w.heap.size, 0, none⟩)) rfl (by kernel_rfl) (by kernel_rfl) (by kernel_rfl) (fun _ _ _ h => h) (Or.inl ⟨by rfl, ?_⟩) (by assumption) ?_
  · intro w' hSw; (try dsimp only at hSw); go_simp
  (try simp only [Act.put])
  refine wpAnyH_take (i := 1) (v := .bool b1) rfl (by kernel_rfl) (by kernel_rfl) (by kernel_rfl) (fun _ _ _ h => h) (Or.inl ⟨by rfl, ?_⟩) (by assumption) ?_
  · intro w' hSw; (try dsimp only at hSw); go_simp
  (try simp only [Act.put])
  refine wpAnyH_take (i := 2) (v := .pointer (some ⟨w.heap.size + 1, 0, none⟩)) rfl (by kernel_rfl) (by kernel_rfl) (by kernel_rfl) (fun _ _ _ h => h) (Or.inl ⟨by rfl, ?_⟩) (by assumption) ?_
  · intro w' hSw; (try dsimp only at hSw); go_simp
  (try simp only [Act.put])
  refine wpAnyH_take (i := 3) (v := .bool b2) rfl (by kernel_rfl) (by kernel_rfl) (by kernel_rfl) (fun _ _ _ h => h) (Or.inl ⟨by rfl, ?_⟩) (by assumption) ?_
  · intro w' hSw; (try dsimp only at hSw); go_simp
  (try simp only [Act.put])
  refine wpAnyH_take (i := 4) (v := .bool true) rfl (by kernel_rfl) (by kernel_rfl) (by kernel_rfl) (fun _ _ _ h => h) (Or.inl ⟨by rfl, ?_⟩) (by assumption) ?_
  · intro w' hSw; (try dsimp only at hSw); go_simp
  (try simp only [Act.put])
  refine wpAnyH_take (i := 5) (v := .bool true) rfl (by kernel_rfl) (by kernel_rfl) (by kernel_rfl) (fun _ _ _ h => h) (Or.inl ⟨by rfl, ?_⟩) (by assumption) ?_
  · intro w' hSw; (try dsimp only at hSw); go_simp
  (try simp only [Act.put])
  refine wpAnyH_take (i := 6) (v := .agg #[.bool b1, .slice A1 (ln WB n1) c1, .slice A2 (ln WB d1) c2]) rfl (by kernel_rfl) (by kernel_rfl) (by kernel_rfl) (fun _ _ _ h => h) (Or.inl ⟨by rfl, ?_⟩) (by assumption) ?_
  · intro w' hSw; (try dsimp only at hSw); go_simp
  (try simp only [Act.put])
  refine wpAnyH_take (i := 15) (v := .pointer (some ⟨w.heap.size, 1, none⟩)) rfl (by kernel_rfl) (by kernel_rfl) (by kernel_rfl) (fun _ _ _ h => h) (Or.inl ⟨by rfl, ?_⟩) (by assumption) ?_
  · intro w' hSw; (try dsimp only at hSw); go_simp
  (try simp only [Act.put])
  refine wpAnyH_take (i := 16) (v := .slice A1 (ln WB n1) c1) rfl (by kernel_rfl) (by kernel_rfl) (by kernel_rfl) (fun _ _ _ h => h) (Or.inl ⟨by rfl, ?_⟩) (by assumption) ?_
  · intro w' hSw; (try dsimp only at hSw); go_simp
  (try simp only [Act.put])
  refine wpAnyH_take (i := 17) (v := .slice A6 (ln WB g) c6) rfl (by kernel_rfl) (by kernel_rfl) (by kernel_rfl) (fun _ _ _ h => h) (Or.inl ⟨by rfl, ?_⟩) (by assumption) ?_
  · intro w' hSw; (try dsimp only at hSw); go_simp
  (try simp only [Act.put])
  refine wpAnyH_take (i := 19) (v := .pointer (some ⟨w.heap.size + 1, 1, none⟩)) rfl (by kernel_rfl) (by kernel_rfl) (by kernel_rfl) (fun _ _ _ h => h) (Or.inl ⟨by rfl, ?_⟩) (by assumption) ?_
  · intro w' hSw; (try dsimp only at hSw); go_simp
  (try simp only [Act.put])
  refine wpAnyH_take (i := 20) (v := .slice A3 (ln WB n2) c3) rfl (by kernel_rfl) (by kernel_rfl) (by kernel_rfl) (fun _ _ _ h => h) (Or.inl ⟨by rfl, ?_⟩) (by assumption) ?_
  · intro w' hSw; (try dsimp only at hSw); go_simp
  (try simp only [Act.put])
  refine wpAnyH_take (i := 21) (v := .slice A7 (ln WB h) c7) rfl (by kernel_rfl) (by kernel_rfl) (by kernel_rfl) (fun _ _ _ h => h) (Or.inl ⟨by rfl, ?_⟩) (by assumption) ?_
  · intro w' hSw; (try dsimp only at hSw); go_simp
  (try simp only [Act.put])
  refine wpAnyH_take (i := 24) (v := .pointer (some ⟨w.heap.size, 2, none⟩)) rfl (by kernel_rfl) (by kernel_rfl) (by kernel_rfl) (fun _ _ _ h => h) (Or.inl ⟨by rfl, ?_⟩) (by assumption) ?_
  · intro w' hSw; (try dsimp only at hSw); go_simp
  (try simp only [Act.put])
  refine wpAnyH_take (i := 25) (v := .slice A2 (ln WB d1) c2) rfl (by kernel_rfl) (by kernel_rfl) (by kernel_rfl) (fun _ _ _ h => h) (Or.inl ⟨by rfl, ?_⟩) (by assumption) ?_
  · intro w' hSw; (try dsimp only at hSw); go_simp
  (try simp only [Act.put])
  refine wpAnyH_take (i := 26) (v := .slice A7 (ln WB h) c7) rfl (by kernel_rfl) (by kernel_rfl) (by kernel_rfl) (fun _ _ _ h => h) (Or.inl ⟨by rfl, ?_⟩) (by assumption) ?_
  · intro w' hSw; (try dsimp only at hSw); go_simp
  (try simp only [Act.put])
  refine wpAnyH_take (i := 28) (v := .pointer (some ⟨w.heap.size + 1, 2, none⟩)) rfl (by kernel_rfl) (by kernel_rfl) (by kernel_rfl) (fun _ _ _ h => h) (Or.inl ⟨by rfl, ?_⟩) (by assumption) ?_
  · intro w' hSw; (try dsimp only at hSw); go_simp
  (try simp only [Act.put])
  refine wpAnyH_take (i := 29) (v := .slice A4 (ln WB d2) c4) rfl (by kernel_rfl) (by kernel_rfl) (by kernel_rfl) (fun _ _ _ h => h) (Or.inl ⟨by rfl, ?_⟩) (by assumption) ?_
  · intro w' hSw; (try dsimp only at hSw); go_simp
  (try simp only [Act.put])
  refine wpAnyH_take (i := 30) (v := .slice A6 (ln WB g) c6) rfl (by kernel_rfl) (by kernel_rfl) (by kernel_rfl) (fun _ _ _ h => h) (Or.inl ⟨by rfl, ?_⟩) (by assumption) ?_
  · intro w' hSw; (try dsimp only at hSw); go_simp
  (try simp only [Act.put])
  refine wpAnyH_ready (rs := [7]) (by kernel_rfl) (by simp) ?_
  refine AllReadyH.cons rfl (fun K hK => ?_) AllReadyH.nil
  go_simp
  go_wp2_with (go_at_call_of 80 (Value.agg #[.bool b1, .slice A1 (ln WB n1) c1, .slice A2 (ln WB d1) c2]); refine (Z1.out _ (HB.out.trans ((Below.refl _ wc).drew.mono HB.out.size))).mono ?_; rintro e wa ⟨rfl, hba⟩; have K0 := Lib.hid (below_of_drew hba))
  refine hK.out _ _ ?_ (fun hHeld => ?_)
  · (try dsimp only); (refine hold6B hA hQ (by omega) (by omega) ?_ ?_ <;> first | exact (Below.refl _ wc).drew | exact hq0.below (Below.refl _ wc).drew | exact hold6B_below (by assumption) | exact hold6B_boxy (by assumption) | (refine stepB hsz (hold6B_below (by assumption)) ?_; assumption) | (refine Boxy.below (hold6B_boxy (by assumption)) ?_; assumption) | exact below_put3 (hold6B_below (by assumption)) (Nat.le_refl _) _ _ _ | exact Boxy.put (hold6B_boxy (by assumption)) _ _ _)
  clear hK K
  (try simp only [Act.put])
  refine wpAnyH_take (i := 8) (v := .bool false) rfl (by kernel_rfl) (by kernel_rfl) (by kernel_rfl) (fun _ _ _ h => h) (Or.inl ⟨by rfl, ?_⟩) (by assumption) ?_
  · intro w' hSw; (try dsimp only at hSw); go_simp
  (try simp only [Act.put])
  refine wpAnyH_take (i := 9) (v := .bool false) rfl (by kernel_rfl) (by kernel_rfl) (by kernel_rfl) (fun _ _ _ h => h) (Or.inl ⟨by rfl, ?_⟩) (by assumption) ?_
  · intro w' hSw; (try dsimp only at hSw); go_simp
  (try simp only [Act.put])
  refine wpAnyH_take (i := 10) (v := .bool false) rfl (by kernel_rfl) (by kernel_rfl) (by kernel_rfl) (fun _ _ _ h => h) (Or.inl ⟨by rfl, ?_⟩) (by assumption) ?_
  · intro w' hSw; (try dsimp only at hSw); go_simp
  (try simp only [Act.put])
  refine wpAnyH_take (i := 11) (v := undef) rfl (by kernel_rfl) (by kernel_rfl) (by kernel_rfl) (fun _ _ _ h => h) (Or.inr ⟨by simp [Region.wanted, yielded], rfl⟩) (by assumption) ?_
  (try simp only [Act.put])
  refine wpAnyH_take (i := 12) (v := undef) rfl (by kernel_rfl) (by kernel_rfl) (by kernel_rfl) (fun _ _ _ h => h) (Or.inr ⟨by simp [Region.wanted, yielded], rfl⟩) (by assumption) ?_
  (try simp only [Act.put])
  refine wpAnyH_take (i := 13) (v := undef) rfl (by kernel_rfl) (by kernel_rfl) (by kernel_rfl) (fun _ _ _ h => h) (Or.inr ⟨by simp [Region.wanted, yielded], rfl⟩) (by assumption) ?_
  (try simp only [Act.put])
  refine wpAnyH_take (i := 14) (v := .bool false) rfl (by kernel_rfl) (by kernel_rfl) (by kernel_rfl) (fun _ _ _ h => h) (Or.inl ⟨by rfl, ?_⟩) (by assumption) ?_
  · intro w' hSw; (try dsimp only at hSw); go_simp
  (try simp only [Act.put])
  refine wpAnyH_ready (rs := [18]) (by kernel_rfl) (by simp) ?_
  refine AllReadyH.cons rfl (fun K hK => ?_) AllReadyH.nil
  go_simp
  go_wp2_with (go_at_call_of 143 (Value.slice A1 (ln WB n1) c1); refine (exact_any _ _ n1 g _ (H1.out.below (HB.out.trans ((K0.out).mono HB.out.size)) (Nat.le_refl _)) (Hvg.out.below (K0.out) (Nat.le_refl _)) pg (by omega)).mono ?_; rintro e w1 ⟨⟨u1, rfl, hv1⟩, hb1⟩; have K1 := Lib.hid ((K0.out).trans (hb1.mono (K0.out).size)); have Hv1 := Lib.hid hv1; clear hv1)
  refine hK.out _ _ ?_ (fun hHeld => ?_)
  · (try dsimp only); (refine hold6B hA hQ (by omega) (by omega) ?_ ?_ <;> first | exact (Below.refl _ wc).drew | exact hq0.below (Below.refl _ wc).drew | exact hold6B_below (by assumption) | exact hold6B_boxy (by assumption) | (refine stepB hsz (hold6B_below (by assumption)) ?_; assumption) | (refine Boxy.below (hold6B_boxy (by assumption)) ?_; assumption) | exact below_put3 (hold6B_below (by assumption)) (Nat.le_refl _) _ _ _ | exact Boxy.put (hold6B_boxy (by assumption)) _ _ _)
  clear hK K
  (try simp only [Act.put])
  refine wpAnyH_ready (rs := [22]) (by kernel_rfl) (by simp) ?_
  refine AllReadyH.cons rfl (fun K hK => ?_) AllReadyH.nil
  go_simp
  go_wp2_with (go_at_call_of 143 (Value.slice A3 (ln WB n2) c3); refine (exact_any _ _ n2 h _ (H3.out.below (HB.out.trans ((K1.out).mono HB.out.size)) (Nat.le_refl _)) (Hvh.out.below K1.out (Nat.le_refl _)) ph (by omega)).mono ?_; rintro e w2 ⟨⟨u2, rfl, hv2⟩, hb2⟩; have K2 := Lib.hid (K1.out.trans (hb2.mono K1.out.size)); have Hv2 := Lib.hid hv2; clear hv2)
  refine hK.out _ _ ?_ (fun hHeld => ?_)
  · (try dsimp only); (refine hold6B hA hQ (by omega) (by omega) ?_ ?_ <;> first | exact (Below.refl _ wc).drew | exact hq0.below (Below.refl _ wc).drew | exact hold6B_below (by assumption) | exact hold6B_boxy (by assumption) | (refine stepB hsz (hold6B_below (by assumption)) ?_; assumption) | (refine Boxy.below (hold6B_boxy (by assumption)) ?_; assumption) | exact below_put3 (hold6B_below (by assumption)) (Nat.le_refl _) _ _ _ | exact Boxy.put (hold6B_boxy (by assumption)) _ _ _)
  clear hK K
  (try simp only [Act.put])
  refine wpAnyH_ready (rs := [23]) (by kernel_rfl) (by simp) ?_
  refine AllReadyH.cons rfl (fun K hK => ?_) AllReadyH.nil
  go_simp
  go_wp2_with (go_at_call_of 144 u1; refine (mulNats_any _ _ (n1 / g) (n2 / h) _ (Hv1.out.below hb2 (Nat.le_refl _)) Hv2.out (by omega) (by omega)).mono ?_; rintro e w3 ⟨⟨u3, rfl, hv3⟩, hb3⟩; rw [← HN.out] at hv3; obtain ⟨Am, cm, rfl, _, _, _⟩ := RowF.open hv3; have K3 := Lib.hid (K2.out.trans (hb3.mono K2.out.size)); have HN3 := Lib.hid hv3; clear hv3)
  refine hK.out _ _ ?_ (fun hHeld => ?_)
  · (try dsimp only); (refine hold6B hA hQ (by omega) (by omega) ?_ ?_ <;> first | exact (Below.refl _ wc).drew | exact hq0.below (Below.refl _ wc).drew | exact hold6B_below (by assumption) | exact hold6B_boxy (by assumption) | (refine stepB hsz (hold6B_below (by assumption)) ?_; assumption) | (refine Boxy.below (hold6B_boxy (by assumption)) ?_; assumption) | exact below_put3 (hold6B_below (by assumption)) (Nat.le_refl _) _ _ _ | exact Boxy.put (hold6B_boxy (by assumption)) _ _ _)
  clear hK K
  (try simp only [Act.put])
  refine wpAnyH_ready (rs := [27]) (by kernel_rfl) (by simp) ?_
  refine AllReadyH.cons rfl (fun K hK => ?_) AllReadyH.nil
  go_simp
  go_wp2_with (go_at_call_of 143 (Value.slice A2 (ln WB d1) c2); refine (exact_any _ _ d1 h _ (H2.out.below (HB.out.trans ((K3.out).mono HB.out.size)) (Nat.le_refl _)) (Hvh.out.below K3.out (Nat.le_refl _)) ph (by omega)).mono ?_; rintro e w4 ⟨⟨u4, rfl, hv4⟩, hb4⟩; have K4 := Lib.hid (K3.out.trans (hb4.mono K3.out.size)); have HN4 := Lib.hid (HN3.out.below hb4 (Nat.le_refl _)); have Hv4 := Lib.hid hv4; clear hv4)
  refine hK.out _ _ ?_ (fun hHeld => ?_)
  · (try dsimp only); (refine hold6B hA hQ (by omega) (by omega) ?_ ?_ <;> first | exact (Below.refl _ wc).drew | exact hq0.below (Below.refl _ wc).drew | exact hold6B_below (by assumption) | exact hold6B_boxy (by assumption) | (refine stepB hsz (hold6B_below (by assumption)) ?_; assumption) | (refine Boxy.below (hold6B_boxy (by assumption)) ?_; assumption) | exact below_put3 (hold6B_below (by assumption)) (Nat.le_refl _) _ _ _ | exact Boxy.put (hold6B_boxy (by assumption)) _ _ _)
  clear hK K
  (try simp only [Act.put])
  refine wpAnyH_ready (rs := [31]) (by kernel_rfl) (by simp) ?_
  refine AllReadyH.cons rfl (fun K hK => ?_) AllReadyH.nil
  go_simp
  go_wp2_with (go_at_call_of 143 (Value.slice A4 (ln WB d2) c4); refine (exact_any _ _ d2 g _ (H4.out.below (HB.out.trans ((K4.out).mono HB.out.size)) (Nat.le_refl _)) (Hvg.out.below K4.out (Nat.le_refl _)) pg (by omega)).mono ?_; rintro e w5 ⟨⟨u5, rfl, hv5⟩, hb5⟩; have HN5 := Lib.hid (HN4.out.below hb5 (Nat.le_refl _)); have Hv5 := Lib.hid hv5; clear hv5)
  refine hK.out _ _ ?_ (fun hHeld => ?_)
  · (try dsimp only); (refine hold6B hA hQ (by omega) (by omega) ?_ ?_ <;> first | exact (Below.refl _ wc).drew | exact hq0.below (Below.refl _ wc).drew | exact hold6B_below (by assumption) | exact hold6B_boxy (by assumption) | (refine stepB hsz (hold6B_below (by assumption)) ?_; assumption) | (refine Boxy.below (hold6B_boxy (by assumption)) ?_; assumption) | exact below_put3 (hold6B_below (by assumption)) (Nat.le_refl _) _ _ _ | exact Boxy.put (hold6B_boxy (by assumption)) _ _ _)
  clear hK K
  (try simp only [Act.put])
  refine wpAnyH_ready (rs := [32]) (by kernel_rfl) (by simp) ?_
  refine AllReadyH.cons rfl (fun K hK => ?_) AllReadyH.nil
  go_simp
  go_wp2_with (go_at_call_of 144 u4; refine (mulNats_any _ _ (d1 / h) (d2 / g) _ (Hv4.out.below hb5 (Nat.le_refl _)) Hv5.out (by omega) (by omega)).mono ?_; rintro e w6 ⟨⟨u6, rfl, hv6⟩, hb6⟩; rw [← HD.out] at hv6; obtain ⟨q0, q1, q2, hz⟩ := Boxy.below (hold6B_boxy (by assumption)) hb6; obtain ⟨z0, z1, z2, f0, f1, f2⟩ := hz.three; obtain ⟨Ad, cd, rfl, _, _, _⟩ := RowF.open hv6; have HDv := Lib.hid hv6; have HN6 := Lib.hid (HN5.out.below hb6 (Nat.le_refl _)); clear hv6)
  refine hK.out _ _ ?_ (fun hHeld => ?_)
  · (try dsimp only); (refine hold6B hA hQ (by omega) (by omega) ?_ ?_ <;> first | exact (Below.refl _ wc).drew | exact hq0.below (Below.refl _ wc).drew | exact hold6B_below (by assumption) | exact hold6B_boxy (by assumption) | (refine stepB hsz (hold6B_below (by assumption)) ?_; assumption) | (refine Boxy.below (hold6B_boxy (by assumption)) ?_; assumption) | exact below_put3 (hold6B_below (by assumption)) (Nat.le_refl _) _ _ _ | exact Boxy.put (hold6B_boxy (by assumption)) _ _ _)
  clear hK K
  (try simp only [Act.put])
  refine wpAnyH_take (i := 33) (v := .agg #[.bool false, .slice Am (ln WB N) cm, .slice Ad (ln WB D) cd]) rfl (by kernel_rfl) (by kernel_rfl) (by kernel_rfl) (fun _ _ _ h => h) (Or.inl ⟨by rfl, ?_⟩) (by assumption) ?_
  · intro w' hSw; (try dsimp only at hSw); go_simp
  (try simp only [Act.put])
  refine wpAnyH_ready (rs := [34]) (by kernel_rfl) (by simp) ?_
  refine AllReadyH.cons rfl (fun K hK => ?_) AllReadyH.nil
  go_simp
  refine hK.out _ _ ?_ (fun hHeld => ?_)
  · (try dsimp only); (refine hold6B hA hQ (by omega) (by omega) ?_ ?_ <;> first | exact (Below.refl _ wc).drew | exact hq0.below (Below.refl _ wc).drew | exact hold6B_below (by assumption) | exact hold6B_boxy (by assumption) | (refine stepB hsz (hold6B_below (by assumption)) ?_; assumption) | (refine Boxy.below (hold6B_boxy (by assumption)) ?_; assumption) | exact below_put3 (hold6B_below (by assumption)) (Nat.le_refl _) _ _ _ | exact Boxy.put (hold6B_boxy (by assumption)) _ _ _)
  clear hK K
  (try simp only [Act.put])
  refine wpAnyH_done (by kernel_rfl) ?_ _
  all_goals go_wp2_with fail
  all_goals obtain ⟨m0, m1, m2⟩ := hz.put3 (.bool false) (.slice Am (ln WB N) cm) (.slice Ad (ln WB D) cd)
  all_goals refine bodyPost_ret (v := .agg #[.bool false, .slice Am (ln WB N) cm, .slice Ad (ln WB D) cd]) (by simp [results, Tryz.results93, go_sem, m0, m1, m2]; done) rfl ?_
  all_goals exact ⟨⟨_, rfl, ⟨_, _, rfl, Nums.put3 HN6.out hz (by decide) _ _ _, Nums.put3 HDv.out hz (by decide) _ _ _⟩⟩, under HB.out (hold6B_below (by assumption))⟩

end Go.Proofs.YtlfghhmphgidjaaGreatDoor
