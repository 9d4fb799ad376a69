/-
  Several texts in one: MulF, ImplMul.
-/
import Derived.Test.YtmmonglcbkefmaaGreatDoorMulFA
import Derived.Test.YtmmonglcbkefmaaGreatDoorMulFB
import Derived.Test.YtmmonglcbkefmaaGreatDoorMulFC
/-
  The program's product of two fractions, whatever their signs; its inverse of a fraction.
-/
namespace Go.Proofs.YtmmonglcbkefmaaGreatDoor
open Go.RowKit Num

/-- The program's product of two fractions. -/
theorem mulF_any (b1 b2 : Bool) (v1 v2 v3 v4 : Value) (n1 d1 n2 d2 : Nat) (w : World) (h1 : Nums 54 .u64 WB w v1 n1) (h2 : Nums 54 .u64 WB w v2 d1) (h3 : Nums 54 .u64 WB w v3 n2) (h4 : Nums 54 .u64 WB w v4 d2) (hT : Tab64 w)
    (l1 : ln WB n1 ≤ 68719476736) (l2 : ln WB d1 ≤ 68719476736) (l3 : ln WB n2 ≤ 68719476736) (l4 : ln WB d2 ≤ 68719476736) (p1 : 0 < d1) (p2 : 0 < d2) (k1 : Nat.gcd n1 d1 = 1) (k2 : Nat.gcd n2 d2 = 1) (_z1 : n1 = 0 → b1 = false) (_z2 : n2 = 0 → b2 = false)
    (sg : Bool) (N D : Nat) (ho : mulO b1 n1 d1 b2 n2 d2 = (sg, N, D)) :
    Calls Tryz.prog 49 #[.agg #[.bool b1, v1, v2], .agg #[.bool b2, v3, v4]] w fun e w' => (∃ v, e = .returned v ∧ IsF w' v sg N D) ∧ Below w.heap.size w w' := by
  rw [mul_bridge b1 n1 d1 b2 n2 d2 p1 p2 k1 k2] at ho
  simp only [Prod.mk.injEq] at ho
  obtain ⟨hs, hN, hD⟩ := ho
  by_cases hb : b1 = b2
  · have he : (b1 == b2) = true := by rw [beq_iff_eq]; exact hb
    obtain rfl : false = sg := by rw [← hs, hb]; cases b2 <;> rfl
    exact mulF_A b1 b2 v1 v2 v3 v4 n1 d1 n2 d2 w h1 h2 h3 h4 hT (by omega) (by omega) (by omega) (by omega) p1 p2 he _ _ N D rfl rfl hN.symm hD.symm
  · have he : (b1 == b2) = false := by rw [beq_eq_false_iff_ne]; exact hb
    have hx : (b1 != b2) = true := by rw [bne, he]; rfl
    rw [hx, Bool.true_and] at hs
    by_cases hz : n1 = 0
    · obtain rfl : false = sg := by rw [← hs, hz, Nat.zero_mul]; rfl
      exact mulF_B b1 b2 v1 v2 v3 v4 n1 d1 n2 d2 w h1 h2 h3 h4 hT (by omega) (by omega) (by omega) (by omega) p1 p2 he hz _ _ N D rfl rfl hN.symm hD.symm
    · have hs2 : (!decide (n2 = 0)) = sg := by
        rw [← hs]
        by_cases h0 : n2 = 0
        · rw [h0, Nat.mul_zero]; rfl
        · rw [decide_eq_false h0, decide_eq_true (Nat.mul_pos (by omega) (by omega))]; rfl
      subst hs2
      exact mulF_C b1 b2 v1 v2 v3 v4 n1 d1 n2 d2 w h1 h2 h3 h4 hT (by omega) (by omega) (by omega) (by omega) p1 p2 he hz _ rfl _ _ N D rfl rfl hN.symm hD.symm

set_option maxRecDepth 100000 in
set_option maxHeartbeats 1600000 in
theorem invF_any (b : Bool) (v1 v2 : Value) (n d : Nat) (w : World) (h1 : Nums 54 .u64 WB w v1 n) (h2 : Nums 54 .u64 WB w v2 d) :
    Calls Tryz.prog 54 #[.agg #[.bool b, v1, v2]] w fun e w' => (∃ v, e = .returned v ∧ IsF w' v b d n) ∧ Below w.heap.size w w' := by
  obtain ⟨A1, c1, rfl, _, _, _⟩ := RowF.open h1
  obtain ⟨A2, c2, rfl, _, _, _⟩ := RowF.open h2
  have H1 := Lib.hid h1
  have H2 := Lib.hid h2
  clear h1 h2
  go_enter Tryz.func54, Tryz.ntmps54
  go_wp2_with fail
  have hR2 := Box.new (w.alloc (.cells #[.bool b, .slice A1 (ln WB n) c1, .slice A2 (ln WB d) c2] 62)) 62 #[.bool b, .slice A2 (ln WB d) c2, .slice A1 (ln WB n) c1]
  rw [show (w.alloc (.cells #[.bool b, .slice A1 (ln WB n) c1, .slice A2 (ln WB d) c2] 62)).heap.size = w.heap.size + 1 by simp] at hR2
  obtain ⟨m0, m1, m2, _, _, _⟩ := hR2.three
  have hB2 := ((Below.refl w.heap.size w).alloc (Nat.le_refl _) (.cells #[.bool b, .slice A1 (ln WB n) c1, .slice A2 (ln WB d) c2] 62)).alloc (by simp) (.cells #[.bool b, .slice A2 (ln WB d) c2, .slice A1 (ln WB n) c1] 62)
  refine bodyPost_ret (v := .agg #[.bool b, .slice A2 (ln WB d) c2, .slice A1 (ln WB n) c1]) (by simp [results, Tryz.results54, go_sem, m0, m1, m2]; done) rfl ?_
  exact ⟨⟨_, rfl, ⟨_, _, rfl, H2.out.below hB2 (Nat.le_refl _), H1.out.below hB2 (Nat.le_refl _)⟩⟩, hB2⟩

end Go.Proofs.YtmmonglcbkefmaaGreatDoor
/-
  The program's MulRat.
-/
namespace Go.Proofs.YtmmonglcbkefmaaGreatDoor
open Go.RowKit Num

set_option maxRecDepth 100000 in
set_option maxHeartbeats 1600000 in
theorem implMul_any (b1 : Bool) (x1 y1 : ByteArray) (b2 : Bool) (x2 y2 : ByteArray) (w : World) (hx1 : x1.size ≤ 9223372036854775807) (hy1 : y1.size ≤ 9223372036854775807) (hx2 : x2.size ≤ 9223372036854775807) (hy2 : y2.size ≤ 9223372036854775807) (hU : UnitB w) (hT : Tab64 w) (hP : TabP w) :
    Calls Tryz.prog 9 #[.agg #[.bool b1, .string x1, .string y1], .agg #[.bool b2, .string x2, .string y2]] w fun e w' => e = .returned (opRes b1 x1 y1 b2 x2 y2 (mulO b1 (numOf x1) (numOf y1) b2 (numOf x2) (numOf y2))) ∧ Below w.heap.size w w' := by
  have C1 : Hid (∀ W, Below w.heap.size w W → _) := Lib.hid fun W hW => pair_any b1 x1 y1 b2 x2 y2 W hx1 hy1 hx2 hy2 (hU.below hW) (hT.below hW)
  obtain ⟨r, hr⟩ : ∃ r, r = (validR b1 x1 y1 && validR b2 x2 y2) := ⟨_, rfl⟩
  unfold opRes
  rw [← hr] at C1 ⊢
  have hB := (((Below.refl w.heap.size w).alloc (Nat.le_refl _) (.cells #[.bool b1, .string x1, .string y1] 24)).alloc (by simp) (.cells #[.bool b2, .string x2, .string y2] 24)).alloc (by simp; omega) (.cells #[.bool false, .string ⟨#[]⟩, .string ⟨#[]⟩] 24)
  have hR := Box.new ((w.alloc (.cells #[.bool b1, .string x1, .string y1] 24)).alloc (.cells #[.bool b2, .string x2, .string y2] 24)) 24 #[.bool false, .string ⟨#[]⟩, .string ⟨#[]⟩]
  have e0 : ∀ (W : World) (o : Obj), (W.alloc o).heap.size = W.heap.size + 1 := fun W o => by simp
  rw [e0, e0] at hR
  clear e0
  have HB := Lib.hid hB
  have HT := Lib.hid hT
  have HP := Lib.hid hP
  clear hB hU hT hP hx1 hy1 hx2 hy2
  cases r with
  | false =>
    rw [if_neg (by decide)]
    clear hr
    go_enter Tryz.func9, Tryz.ntmps9
    go_wp2_with (go_at_call 42; refine (C1.out _ HB.out).mono ?_; rintro e w1 ⟨⟨c1, A1, l1, k1, A2, l2, k2, c2, A3, l3, k3, A4, l4, k4, rfl, hn⟩, hb1⟩; clear hn; have HB1 := Lib.hid (HB.out.trans (hb1.mono HB.out.size)); replace hR := (hR.below hb1 hR.lt); clear hb1; have hz := (hR.alloc (.cells #[.bool c1, .slice A1 l1 k1, .slice A2 l2 k2] 62)).alloc (.cells #[.bool c2, .slice A3 l3 k3, .slice A4 l4 k4] 62); obtain ⟨z0, z1, z2, f0, f1, f2⟩ := hz.three)
    obtain ⟨m0, m1, m2⟩ := hz.put3 (.bool false) (.string ⟨#[]⟩) (.string ⟨#[]⟩)
    refine bodyPost_ret (v := noRat) (by simp [results, Tryz.results9, go_sem, noRat, m0, m1, m2]; done) rfl ⟨rfl, ?_⟩
    exact below_put3 ((HB1.out.alloc HB1.out.size _).alloc (HB1.out.alloc HB1.out.size _).size _) (by omega) _ _ _
  | true =>
    obtain ⟨hv1, hv2⟩ : validR b1 x1 y1 = true ∧ validR b2 x2 y2 = true := by simpa using hr.symm
    obtain ⟨m1, m2, m3, m4⟩ := validR_num hv1
    obtain ⟨m5, m6, m7, m8⟩ := validR_num hv2
    have k1 := validR_gcd hv1
    have k2 := validR_gcd hv2
    have l1' := ln_capS m1
    have l2' := ln_capS m2
    have l3' := ln_capS m5
    have l4' := ln_capS m6
    rw [if_pos rfl]
    obtain ⟨⟨sg, N, D⟩, ho⟩ : ∃ o, mulO b1 (numOf x1) (numOf y1) b2 (numOf x2) (numOf y2) = o := ⟨_, rfl⟩
    rw [ho]
    obtain ⟨rb, rx, ry, rc, hres⟩ := ratRes_shape sg N D
    rw [hres]
    have CA : Hid (∀ (v1 v2 v3 v4 : Value) (W : World), Below w.heap.size w W → Nums 54 .u64 WB W v1 (numOf x1) → Nums 54 .u64 WB W v2 (numOf y1) → Nums 54 .u64 WB W v3 (numOf x2) → Nums 54 .u64 WB W v4 (numOf y2) → _) :=
      Lib.hid fun v1 v2 v3 v4 W hW g1 g2 g3 g4 => mulF_any b1 b2 v1 v2 v3 v4 _ _ _ _ W g1 g2 g3 g4 (HT.out.below hW) (by omega) (by omega) (by omega) (by omega) (by omega) (by omega) k1 k2 m4 m8 sg N D ho
    have CR : Hid (∀ (vn vd : Value) (W : World), Below w.heap.size w W → Nums 54 .u64 WB W vn N → Nums 54 .u64 WB W vd D → Calls Tryz.prog 43 #[.agg #[.bool sg, vn, vd]] W fun e w' => e = .returned (.tuple #[.agg #[.bool rb, .string rx, .string ry], .bool rc]) ∧ Below W.heap.size W w') := Lib.hid fun vn vd W hW g1 g2 => by
      rw [← hres]; exact ratF_all sg vn vd N D W (staysP.below _ _ HP.out hW) g1 g2
    clear hr hv1 hv2 m1 m2 m3 m4 m5 m6 m7 m8 k1 k2 l1' l2' l3' l4' ho hres
    go_enter Tryz.func9, Tryz.ntmps9
    go_wp2_with (first
      | (go_at_call 42; refine (C1.out _ HB.out).mono ?_; rintro e w1 ⟨⟨c1, A1, l1, k1, A2, l2, k2, c2, A3, l3, k3, A4, l4, k4, rfl, hn⟩, hb1⟩; obtain ⟨⟨e1, p1, p2⟩, e2, p3, p4⟩ := hn rfl; subst e1 e2; have HB1 := Lib.hid ((((HB.out.trans (hb1.mono HB.out.size))).alloc (HB.out.trans (hb1.mono HB.out.size)).size (.cells #[.bool c1, .slice A1 l1 k1, .slice A2 l2 k2] 62)).alloc (((HB.out.trans (hb1.mono HB.out.size))).alloc (HB.out.trans (hb1.mono HB.out.size)).size _).size (.cells #[.bool c2, .slice A3 l3 k3, .slice A4 l4 k4] 62)); have hz := ((hR.below hb1 hR.lt).alloc (.cells #[.bool c1, .slice A1 l1 k1, .slice A2 l2 k2] 62)).alloc (.cells #[.bool c2, .slice A3 l3 k3, .slice A4 l4 k4] 62); have q := ((Below.refl w1.heap.size w1).alloc (Nat.le_refl _) (.cells #[.bool c1, .slice A1 l1 k1, .slice A2 l2 k2] 62)).alloc (by simp) (.cells #[.bool c2, .slice A3 l3 k3, .slice A4 l4 k4] 62); have Hq := Lib.hid (And.intro (p1.below q (Nat.le_refl _)) (And.intro (p2.below q (Nat.le_refl _)) (And.intro (p3.below q (Nat.le_refl _)) (p4.below q (Nat.le_refl _))))); clear hb1 hn p1 p2 p3 p4 q)
      | (go_at_call 49; refine (CA.out _ _ _ _ _ HB1.out Hq.out.1 Hq.out.2.1 Hq.out.2.2.1 Hq.out.2.2.2).mono ?_; rintro e w5 ⟨⟨v, rfl, vN, vD, rfl, hN, hD⟩, hb5⟩; replace hz := hz.below hb5 hz.lt; have HB5 := Lib.hid (HB1.out.trans (hb5.mono HB1.out.size)); have HN := Lib.hid hN; have HD := Lib.hid hD; clear hb5 hN hD)
      | (go_at_call 43; refine (CR.out vN vD _ HB5.out HN.out HD.out).mono ?_; rintro e w6 ⟨rfl, hb6⟩; replace hz := hz.below hb6 hz.lt; obtain ⟨z0, z1, z2, f0, f1, f2⟩ := hz.three; have HB6 := Lib.hid (HB5.out.trans (hb6.mono HB5.out.size)); clear hb6))
    obtain ⟨m0, m1, m2⟩ := hz.put3 (.bool rb) (.string rx) (.string ry)
    refine bodyPost_ret (v := .tuple #[.agg #[.bool rb, .string rx, .string ry], .bool rc]) (by simp [results, Tryz.results9, go_sem, m0, m1, m2]; done) rfl ⟨rfl, ?_⟩
    exact below_put3 HB6.out (by omega) _ _ _

end Go.Proofs.YtmmonglcbkefmaaGreatDoor
