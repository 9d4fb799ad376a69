/-
  Several texts in one: MulF, ImplMul.
-/
import Derived.Test.YtlfghhmphgidjaaGreatDoorMulFA
import Derived.Test.YtlfghhmphgidjaaGreatDoorMulFB
import Derived.Test.YtlfghhmphgidjaaGreatDoorMulFC
/-
  The program's product of two fractions, whatever their signs; its inverse of a fraction.
-/
namespace Go.Proofs.YtlfghhmphgidjaaGreatDoor
open Go.RowKit Num

/-- The program's product of two fractions. -/
theorem mulF_any (b1 b2 : Bool) (v1 v2 v3 v4 : Value) (n1 d1 n2 d2 : Nat) (w : World) (h1 : Nums 143 .u64 WB w v1 n1) (h2 : Nums 143 .u64 WB w v2 d1) (h3 : Nums 143 .u64 WB w v3 n2) (h4 : Nums 143 .u64 WB w v4 d2) (hT : Tab64 w)
    (l1 : ln WB n1 ≤ 68719476736) (l2 : ln WB d1 ≤ 68719476736) (l3 : ln WB n2 ≤ 68719476736) (l4 : ln WB d2 ≤ 68719476736) (p1 : 0 < d1) (p2 : 0 < d2) (k1 : Nat.gcd n1 d1 = 1) (k2 : Nat.gcd n2 d2 = 1) (_z1 : n1 = 0 → b1 = false) (_z2 : n2 = 0 → b2 = false)
    (sg : Bool) (N D : Nat) (ho : mulO b1 n1 d1 b2 n2 d2 = (sg, N, D)) :
    Calls Tryz.prog 93 #[.agg #[.bool b1, v1, v2], .agg #[.bool b2, v3, v4]] w fun e w' => (∃ v, e = .returned v ∧ IsF w' v sg N D) ∧ Below w.heap.size w w' := by
  rw [mul_bridge b1 n1 d1 b2 n2 d2 p1 p2 k1 k2] at ho
  simp only [Prod.mk.injEq] at ho
  obtain ⟨hs, hN, hD⟩ := ho
  by_cases hb : b1 = b2
  · have he : (b1 == b2) = true := by rw [beq_iff_eq]; exact hb
    obtain rfl : false = sg := by rw [← hs, hb]; cases b2 <;> rfl
    exact mulF_A b1 b2 v1 v2 v3 v4 n1 d1 n2 d2 w h1 h2 h3 h4 hT (by omega) (by omega) (by omega) (by omega) p1 p2 he _ _ N D rfl rfl hN.symm hD.symm
  · have he : (b1 == b2) = false := by rw [beq_eq_false_iff_ne]; exact hb
    have hx : (b1 != b2) = true := by rw [bne, he]; rfl
    rw [hx, Bool.true_and] at hs
    by_cases hz : n1 = 0
    · obtain rfl : false = sg := by rw [← hs, hz, Nat.zero_mul]; rfl
      exact mulF_B b1 b2 v1 v2 v3 v4 n1 d1 n2 d2 w h1 h2 h3 h4 hT (by omega) (by omega) (by omega) (by omega) p1 p2 he hz _ _ N D rfl rfl hN.symm hD.symm
    · have hs2 : (!decide (n2 = 0)) = sg := by
        rw [← hs]
        by_cases h0 : n2 = 0
        · rw [h0, Nat.mul_zero]; rfl
        · rw [decide_eq_false h0, decide_eq_true (Nat.mul_pos (by omega) (by omega))]; rfl
      subst hs2
      exact mulF_C b1 b2 v1 v2 v3 v4 n1 d1 n2 d2 w h1 h2 h3 h4 hT (by omega) (by omega) (by omega) (by omega) p1 p2 he hz _ rfl _ _ N D rfl rfl hN.symm hD.symm

set_option maxRecDepth 100000 in
set_option maxHeartbeats 1600000 in
theorem invF_any (b : Bool) (v1 v2 : Value) (n d : Nat) (w : World) (h1 : Nums 143 .u64 WB w v1 n) (h2 : Nums 143 .u64 WB w v2 d) :
    Calls Tryz.prog 82 #[.agg #[.bool b, v1, v2]] w fun e w' => (∃ v, e = .returned v ∧ IsF w' v b d n) ∧ Below w.heap.size w w' := by
  obtain ⟨A1, c1, rfl, _, _, _⟩ := RowF.open h1
  obtain ⟨A2, c2, rfl, _, _, _⟩ := RowF.open h2
  have H1 := Lib.hid h1
  have H2 := Lib.hid h2
  clear h1 h2
  go_enter Tryz.func82, Tryz.ntmps82
  go_wp2_with fail
  have hR2 := Box.new (w.alloc (.cells #[.bool b, .slice A1 (ln WB n) c1, .slice A2 (ln WB d) c2] 85)) 85 #[.bool b, .slice A2 (ln WB d) c2, .slice A1 (ln WB n) c1]
  rw [show (w.alloc (.cells #[.bool b, .slice A1 (ln WB n) c1, .slice A2 (ln WB d) c2] 85)).heap.size = w.heap.size + 1 by simp] at hR2
  obtain ⟨m0, m1, m2, _, _, _⟩ := hR2.three
  have hB2 := ((Below.refl w.heap.size w).alloc (Nat.le_refl _) (.cells #[.bool b, .slice A1 (ln WB n) c1, .slice A2 (ln WB d) c2] 85)).alloc (by simp) (.cells #[.bool b, .slice A2 (ln WB d) c2, .slice A1 (ln WB n) c1] 85)
  refine bodyPost_ret (v := .agg #[.bool b, .slice A2 (ln WB d) c2, .slice A1 (ln WB n) c1]) (by simp [results, Tryz.results82, go_sem, m0, m1, m2]; done) rfl ?_
  exact ⟨⟨_, rfl, ⟨_, _, rfl, H2.out.below hB2 (Nat.le_refl _), H1.out.below hB2 (Nat.le_refl _)⟩⟩, hB2⟩

end Go.Proofs.YtlfghhmphgidjaaGreatDoor
/-
  The program's MulRat.
-/
namespace Go.Proofs.YtlfghhmphgidjaaGreatDoor
open Go.RowKit Num

end Go.Proofs.YtlfghhmphgidjaaGreatDoor
