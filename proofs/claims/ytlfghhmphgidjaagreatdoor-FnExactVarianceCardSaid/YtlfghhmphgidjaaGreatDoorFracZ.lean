/-
  The program's fraction of two ints, the first of them 0.
-/
import Derived.Test.YtlfghhmphgidjaaGreatDoorPFr
import Derived.Test.YtlfghhmphgidjaaGreatDoorPWord
import Derived.Deep.RegionWith
import Derived.Deep.DeepCutAuto
namespace Go.Proofs.YtlfghhmphgidjaaGreatDoor
open Go.RowKit Num

set_option maxRecDepth 100000 in
set_option maxHeartbeats 1600000 in
theorem fracInts_zero (num den : Int) (w : World) (hT : Tab64 w) (h1 : -9223372036854775808 ≤ num) (h2 : num ≤ 9223372036854775807) (h3 : -9223372036854775808 ≤ den) (h4 : den ≤ 9223372036854775807) (h0 : den ≠ 0) (hz : num = 0) :
    Calls Tryz.prog 70 #[.int .i64 num, .int .i64 den] w fun e w' => (∃ v, e = .returned v ∧ IsF w' v ((decide (num < 0) != decide (den < 0)) && decide (0 < num.natAbs)) (num.natAbs / Nat.gcd num.natAbs den.natAbs) (den.natAbs / Nat.gcd num.natAbs den.natAbs)) ∧ Below w.heap.size w w' := by
  obtain ⟨a, ha⟩ : ∃ a, a = num.natAbs := ⟨_, rfl⟩
  obtain ⟨b, hb⟩ : ∃ b, b = den.natAbs := ⟨_, rfl⟩
  obtain ⟨g, hg⟩ : ∃ g, g = Nat.gcd a b := ⟨_, rfl⟩
  have hb0 : 0 < b := by omega
  have ha64 : a ≤ 9223372036854775808 := by omega
  have hb64 : b ≤ 9223372036854775808 := by omega
  have hg0 : 0 < g := by rw [hg]; exact Nat.pos_of_ne_zero fun e => by have := Nat.gcd_eq_zero_iff.1 e; omega
  rw [← ha, ← hb, ← hg]
  have hgb : ((g : Int) == 0) = false := by rw [beq_eq_false_iff_ne]; omega
  obtain ⟨p, hp⟩ : ∃ p, p = a / g := ⟨_, rfl⟩
  obtain ⟨q, hq⟩ : ∃ q, q = b / g := ⟨_, rfl⟩
  have hpa : p ≤ a := by rw [hp]; exact Nat.div_le_self _ _
  have hqb : q ≤ b := by rw [hq]; exact Nat.div_le_self _ _
  have hpi : (a : Int) / (g : Int) = (p : Int) := by rw [hp]; simp
  have hqi : (b : Int) / (g : Int) = (q : Int) := by rw [hq]; simp
  have c1 : ∀ W, Calls Tryz.prog 127 #[.int .i64 num] W fun e w' => e = .returned (.int .u64 (a : Nat)) ∧ W = w' := fun W => by rw [ha]; exact magnitude_any num W h1 h2
  have c2 : ∀ W, Calls Tryz.prog 127 #[.int .i64 den] W fun e w' => e = .returned (.int .u64 (b : Nat)) ∧ W = w' := fun W => by rw [hb]; exact magnitude_any den W h3 h4
  have c3 : ∀ W, Tab64 W → Calls Tryz.prog 128 #[.int .u64 a, .int .u64 b] W fun e w' => e = .returned (.int .u64 (g : Nat)) ∧ W = w' := fun W hT => by rw [hg]; exact gcdW_any a b (by omega) (by omega) W hT
  have C1 := Lib.hid c1; clear c1
  have C2 := Lib.hid c2; clear c2
  have C3 := Lib.hid c3; clear c3
  have HT := Lib.hid (hT.below ((Below.refl _ w).alloc (Nat.le_refl _) (.cells #[.bool false, .slice none 0 0, .slice none 0 0] 85))); clear hT
  rw [← hp, ← hq]
  have Hp := Lib.hid hp; clear hp
  have Hq := Lib.hid hq; clear hq
  have Hg := Lib.hid hg; clear hg
  have Ha := Lib.hid ha; clear ha
  have Hb := Lib.hid hb; clear hb
  subst hz
  have ew1 : IntKind.u64.wrap (p : Int) = (p : Int) := IntWalk.u64_in _ (by omega)
  have ew2 : IntKind.u64.wrap (q : Int) = (q : Int) := IntWalk.u64_in _ (by omega)
  have hR0 := Box.new w 85 #[.bool false, .slice none 0 0, .slice none 0 0]
  have c4 : ∀ W : World, Calls Tryz.prog 129 #[.int .u64 p] W fun e w' => (∃ v, e = .returned v ∧ Nums 143 .u64 WB w' v p) ∧ Below W.heap.size W w' := fun W => ofWord_any p (by unfold WB; omega) W
  have c5 : ∀ W : World, Calls Tryz.prog 129 #[.int .u64 q] W fun e w' => (∃ v, e = .returned v ∧ Nums 143 .u64 WB w' v q) ∧ Below W.heap.size W w' := fun W => ofWord_any q (by unfold WB; omega) W
  have C4 := Lib.hid c4; clear c4
  have C5 := Lib.hid c5; clear c5
  have hneg : ((decide ((0 : Int) < 0) != decide (den < 0)) && decide (0 < a)) = false := by
    have h5 : decide (0 < a) = false := by have := Ha.out; simp; omega
    rw [h5, Bool.and_false]
  have Hneg := Lib.hid hneg; clear hneg
  go_enter Tryz.func70, Tryz.ntmps70
  go_wp2_with (go_at_call 127; first | ((with_reducible refine (C1.out _).mono ?_); rintro e w' ⟨rfl, rfl⟩) | ((with_reducible refine (C2.out _).mono ?_); rintro e w' ⟨rfl, rfl⟩))
  go_wp2_with (go_at_call 128; refine (C3.out _ HT.out).mono ?_; rintro e w' ⟨rfl, rfl⟩)
  refine wp_region_any (by kernel_rfl) ?_
  change wpAny _ _ _ _ _ _ _ (World.drew _)
  refine wpAny_take (i := 0) (v := .int .i64 0) rfl (by kernel_rfl) (by kernel_rfl) (by kernel_rfl) (fun _ _ _ h => h) (Or.inl ⟨by rfl, fun w => by go_simp⟩) ?_
  refine wpAny_take (i := 1) (v := .bool false) rfl (by kernel_rfl) (by kernel_rfl) (by kernel_rfl) (fun _ _ _ h => h) (Or.inl ⟨by rfl, fun w => by go_simp⟩) ?_
  refine wpAny_take (i := 2) (v := .bool false) rfl (by kernel_rfl) (by kernel_rfl) (by kernel_rfl) (fun _ _ _ h => h) (Or.inl ⟨by rfl, fun w => by go_simp⟩) ?_
  refine wpAny_take (i := 3) (v := undef) rfl (by kernel_rfl) (by kernel_rfl) (by kernel_rfl) (fun _ _ _ h => h) (Or.inr ⟨by rfl, rfl⟩) ?_
  refine wpAny_take (i := 4) (v := undef) rfl (by kernel_rfl) (by kernel_rfl) (by kernel_rfl) (fun _ _ _ h => h) (Or.inr ⟨by rfl, rfl⟩) ?_
  refine wpAny_take (i := 5) (v := undef) rfl (by kernel_rfl) (by kernel_rfl) (by kernel_rfl) (fun _ _ _ h => h) (Or.inr ⟨by rfl, rfl⟩) ?_
  refine wpAny_take (i := 6) (v := undef) rfl (by kernel_rfl) (by kernel_rfl) (by kernel_rfl) (fun _ _ _ h => h) (Or.inr ⟨by rfl, rfl⟩) ?_
  refine wpAny_take (i := 7) (v := undef) rfl (by kernel_rfl) (by kernel_rfl) (by kernel_rfl) (fun _ _ _ h => h) (Or.inr ⟨by rfl, rfl⟩) ?_
  refine wpAny_take (i := 8) (v := .bool false) rfl (by kernel_rfl) (by kernel_rfl) (by kernel_rfl) (fun _ _ _ h => h) (Or.inl ⟨by rfl, fun w => by go_simp⟩) ?_
  refine wpAny_take (i := 9) (v := .int .u64 a) rfl (by kernel_rfl) (by kernel_rfl) (by kernel_rfl) (fun _ _ _ h => h) (Or.inl ⟨by rfl, fun w => by go_simp⟩) ?_
  refine wpAny_take (i := 10) (v := .int .u64 g) rfl (by kernel_rfl) (by kernel_rfl) (by kernel_rfl) (fun _ _ _ h => h) (Or.inl ⟨by rfl, fun w => by go_simp⟩) ?_
  refine wpAny_take (i := 11) (v := .int .u64 p) rfl (by kernel_rfl) (by kernel_rfl) (by kernel_rfl) (fun _ _ _ h => h) (Or.inl ⟨by rfl, fun w => by go_simp; omega⟩) ?_
  refine wpAny_take (i := 13) (v := .int .u64 b) rfl (by kernel_rfl) (by kernel_rfl) (by kernel_rfl) (fun _ _ _ h => h) (Or.inl ⟨by rfl, fun w => by go_simp⟩) ?_
  refine wpAny_take (i := 14) (v := .int .u64 g) rfl (by kernel_rfl) (by kernel_rfl) (by kernel_rfl) (fun _ _ _ h => h) (Or.inl ⟨by rfl, fun w => by go_simp⟩) ?_
  refine wpAny_take (i := 15) (v := .int .u64 q) rfl (by kernel_rfl) (by kernel_rfl) (by kernel_rfl) (fun _ _ _ h => h) (Or.inl ⟨by rfl, fun w => by go_simp; omega⟩) ?_
  refine wpAny_ready (rs := [12]) (by kernel_rfl) (by simp) ?_
  refine AllReady.cons rfl (fun K hK => ?_) AllReady.nil
  go_simp
  go_wp2_with (go_at_call 129; (with_reducible refine (C4.out _).mono ?_); rintro e w1 ⟨⟨v1, rfl, hv1⟩, hb1⟩; have hR1 := box_drew hR0 hb1; obtain ⟨A1, k1, rfl, _, _, _⟩ := RowF.open hv1; obtain ⟨r10, r11, r12, f10, f11, f12⟩ := hR1.three)
  refine wpAny_ready (rs := [16]) (by kernel_rfl) (by simp) ?_
  refine AllReady.cons rfl (fun K hK => ?_) AllReady.nil
  go_simp
  go_wp2_with (go_at_call 129; (with_reducible refine (C5.out _).mono ?_); rintro e w2 ⟨⟨v2, rfl, hv2⟩, hb2⟩; have hR2 := hR1.below hb2 hR1.lt; obtain ⟨A2, k2, rfl, _, _, _⟩ := RowF.open hv2; obtain ⟨r20, r21, r22, f20, f21, f22⟩ := hR2.three)
  refine wpAny_ready (rs := [17]) (by kernel_rfl) (by simp) ?_
  refine AllReady.cons rfl (fun K hK => ?_) AllReady.nil
  go_simp
  refine hK _ _ ?_
  clear hK K
  refine wpAny_ready (rs := [18]) (by kernel_rfl) (by simp) ?_
  refine AllReady.cons rfl (fun K hK => ?_) AllReady.nil
  go_simp
  refine hK _ _ ?_
  clear hK K
  refine wpAny_done (by kernel_rfl) ?_ _
  clear ew1 ew2 hpi hqi
  go_wp2_with fail
  obtain ⟨k0, k3, k4⟩ := hR2.put3 (.bool false) (.slice A1 (ln WB p) k1) (.slice A2 (ln WB q) k2)
  refine bodyPost_ret (v := .agg #[.bool false, .slice A1 (ln WB p) k1, .slice A2 (ln WB q) k2]) (by simp [results, Tryz.results70, go_sem, k0, k3, k4]; done) rfl ?_
  rw [Hneg.out]
  exact ⟨⟨_, rfl, _, _, rfl, (hv1.below hb2 (Nat.le_refl _)).put3 hR2 (by decide) _ _ _, hv2.put3 hR2 (by decide) _ _ _⟩, below_put3 ((below_of_alloc_drew hb1).trans (hb2.mono (below_of_alloc_drew hb1).size)) (Nat.le_refl _) _ _ _⟩

end Go.Proofs.YtlfghhmphgidjaaGreatDoor
