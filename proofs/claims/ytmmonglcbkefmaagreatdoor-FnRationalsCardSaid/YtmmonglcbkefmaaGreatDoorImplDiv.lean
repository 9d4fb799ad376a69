/-
  The program's DivRat.
-/
import Derived.Test.YtmmonglcbkefmaaGreatDoorSpecMD
import Derived.Test.YtmmonglcbkefmaaGreatDoorMulF
namespace Go.Proofs.YtmmonglcbkefmaaGreatDoor
open Go.RowKit Num

set_option maxRecDepth 100000 in
set_option maxHeartbeats 3200000 in
theorem implDiv_any (b1 : Bool) (x1 y1 : ByteArray) (b2 : Bool) (x2 y2 : ByteArray) (w : World) (hx1 : x1.size ≤ 9223372036854775807) (hy1 : y1.size ≤ 9223372036854775807) (hx2 : x2.size ≤ 9223372036854775807) (hy2 : y2.size ≤ 9223372036854775807) (hU : UnitB w) (hT : Tab64 w) (hP : TabP w) :
    Calls Tryz.prog 13 #[.agg #[.bool b1, .string x1, .string y1], .agg #[.bool b2, .string x2, .string y2]] w fun e w' => e = .returned (divRes b1 x1 y1 b2 x2 y2) ∧ Below w.heap.size w w' := by
  have C1 : Hid (∀ W, Below w.heap.size w W → _) := Lib.hid fun W hW => pair_any b1 x1 y1 b2 x2 y2 W hx1 hy1 hx2 hy2 (hU.below hW) (hT.below hW)
  obtain ⟨r, hr⟩ : ∃ r, r = (validR b1 x1 y1 && validR b2 x2 y2) := ⟨_, rfl⟩
  unfold divRes
  rw [← hr] at C1 ⊢
  have hB := (((Below.refl w.heap.size w).alloc (Nat.le_refl _) (.cells #[.bool b1, .string x1, .string y1] 24)).alloc (by simp) (.cells #[.bool b2, .string x2, .string y2] 24)).alloc (by simp; omega) (.cells #[.bool false, .string ⟨#[]⟩, .string ⟨#[]⟩] 24)
  have hR := Box.new ((w.alloc (.cells #[.bool b1, .string x1, .string y1] 24)).alloc (.cells #[.bool b2, .string x2, .string y2] 24)) 24 #[.bool false, .string ⟨#[]⟩, .string ⟨#[]⟩]
  have e0 : ∀ (W : World) (o : Obj), (W.alloc o).heap.size = W.heap.size + 1 := fun W o => by simp
  rw [e0, e0] at hR
  clear e0
  have HB := Lib.hid hB
  have HT := Lib.hid hT
  have HP := Lib.hid hP
  clear hB hU hT hP hx1 hy1 hx2 hy2
  cases r with
  | false =>
    rw [if_neg (by rw [Bool.false_and]; decide)]
    clear hr
    go_enter Tryz.func13, Tryz.ntmps13
    go_wp2_with (go_at_call 42; refine (C1.out _ HB.out).mono ?_; rintro e w1 ⟨⟨c1, A1, l1, k1, A2, l2, k2, c2, A3, l3, k3, A4, l4, k4, rfl, hn⟩, hb1⟩; clear hn; have HB1 := Lib.hid (HB.out.trans (hb1.mono HB.out.size)); replace hR := (hR.below hb1 hR.lt); clear hb1; have hz := (hR.alloc (.cells #[.bool c1, .slice A1 l1 k1, .slice A2 l2 k2] 62)).alloc (.cells #[.bool c2, .slice A3 l3 k3, .slice A4 l4 k4] 62); obtain ⟨z0, z1, z2, f0, f1, f2⟩ := hz.three)
    obtain ⟨m0, m1, m2⟩ := hz.put3 (.bool false) (.string ⟨#[]⟩) (.string ⟨#[]⟩)
    refine bodyPost_ret (v := noRat) (by simp [results, Tryz.results13, go_sem, noRat, m0, m1, m2]; done) rfl ⟨rfl, ?_⟩
    exact below_put3 ((HB1.out.alloc HB1.out.size _).alloc (HB1.out.alloc HB1.out.size _).size _) (by omega) _ _ _
  | true =>
    obtain ⟨hv1, hv2⟩ : validR b1 x1 y1 = true ∧ validR b2 x2 y2 = true := by simpa using hr.symm
    obtain ⟨m1, m2, m3, m4⟩ := validR_num hv1
    obtain ⟨m5, m6, m7, m8⟩ := validR_num hv2
    have k1 := validR_gcd hv1
    have k2 := validR_gcd hv2
    have l1' := ln_capS m1
    have l2' := ln_capS m2
    have l3' := ln_capS m5
    have l4' := ln_capS m6
    have CZ : Hid (∀ (v3 v4 : Value) (W : World), Nums 54 .u64 WB W v3 (numOf x2) → Nums 54 .u64 WB W v4 (numOf y2) → _) := Lib.hid fun v3 v4 W g3 g4 => isZero_any b2 v3 v4 _ _ W g3 g4
    rw [Bool.true_and]
    by_cases hp : 0 < numOf x2
    · rw [if_pos (decide_eq_true hp)]
      rw [decide_eq_false (by omega : ¬ numOf x2 = 0)] at CZ
      obtain ⟨⟨sg, N, D⟩, ho⟩ : ∃ o, mulO b1 (numOf x1) (numOf y1) b2 (numOf y2) (numOf x2) = o := ⟨_, rfl⟩
      rw [ho]
      obtain ⟨rb, rx, ry, rc, hres⟩ := ratRes_shape sg N D
      rw [hres]
      have CN : Hid (∀ (v3 v4 : Value) (W : World), Nums 54 .u64 WB W v3 (numOf x2) → Nums 54 .u64 WB W v4 (numOf y2) → _) := Lib.hid fun v3 v4 W g3 g4 => invF_any b2 v3 v4 _ _ W g3 g4
      have CA : Hid (∀ (v1 v2 v3 v4 : Value) (W : World), Below w.heap.size w W → Nums 54 .u64 WB W v1 (numOf x1) → Nums 54 .u64 WB W v2 (numOf y1) → Nums 54 .u64 WB W v3 (numOf y2) → Nums 54 .u64 WB W v4 (numOf x2) → _) :=
        Lib.hid fun v1 v2 v3 v4 W hW g1 g2 g3 g4 => mulF_any b1 b2 v1 v2 v3 v4 _ _ _ _ W g1 g2 g3 g4 (HT.out.below hW) (by omega) (by omega) (by omega) (by omega) (by omega) hp k1 (by rw [Nat.gcd_comm]; exact k2) m4 (fun h => by omega) sg N D ho
      have CR : Hid (∀ (vn vd : Value) (W : World), Below w.heap.size w W → Nums 54 .u64 WB W vn N → Nums 54 .u64 WB W vd D → Calls Tryz.prog 43 #[.agg #[.bool sg, vn, vd]] W fun e w' => e = .returned (.tuple #[.agg #[.bool rb, .string rx, .string ry], .bool rc]) ∧ Below W.heap.size W w') := Lib.hid fun vn vd W hW g1 g2 => by
        rw [← hres]; exact ratF_all sg vn vd N D W (staysP.below _ _ HP.out hW) g1 g2
      clear hr hp hv1 hv2 m1 m2 m3 m4 m5 m6 m7 m8 k1 k2 l1' l2' l3' l4' ho hres
      go_enter Tryz.func13, Tryz.ntmps13
      go_upto_region 4 with (first
        | (go_at_call 42; refine (C1.out _ HB.out).mono ?_; rintro e w1 ⟨⟨c1, A1, l1, k1, A2, l2, k2, c2, A3, l3, k3, A4, l4, k4, rfl, hn⟩, hb1⟩; obtain ⟨⟨e1, p1, p2⟩, e2, p3, p4⟩ := hn rfl; subst e1 e2; have HB1 := Lib.hid ((((HB.out.trans (hb1.mono HB.out.size))).alloc (HB.out.trans (hb1.mono HB.out.size)).size (.cells #[.bool c1, .slice A1 l1 k1, .slice A2 l2 k2] 62)).alloc (((HB.out.trans (hb1.mono HB.out.size))).alloc (HB.out.trans (hb1.mono HB.out.size)).size _).size (.cells #[.bool c2, .slice A3 l3 k3, .slice A4 l4 k4] 62)); have hlt := (hR.below hb1 hR.lt).lt; have hz := ((hR.below hb1 hR.lt).alloc (.cells #[.bool c1, .slice A1 l1 k1, .slice A2 l2 k2] 62)).alloc (.cells #[.bool c2, .slice A3 l3 k3, .slice A4 l4 k4] 62); have q := ((Below.refl w1.heap.size w1).alloc (Nat.le_refl _) (.cells #[.bool c1, .slice A1 l1 k1, .slice A2 l2 k2] 62)).alloc (by simp) (.cells #[.bool c2, .slice A3 l3 k3, .slice A4 l4 k4] 62); have Hq := Lib.hid (And.intro (p1.below q (Nat.le_refl _)) (And.intro (p2.below q (Nat.le_refl _)) (And.intro (p3.below q (Nat.le_refl _)) (p4.below q (Nat.le_refl _))))); have hA := (Box.new w1 62 #[.bool c1, .slice A1 l1 k1, .slice A2 l2 k2]).alloc (.cells #[.bool c2, .slice A3 l3 k3, .slice A4 l4 k4] 62); have hQ0 := Box.new (w1.alloc (.cells #[.bool c1, .slice A1 l1 k1, .slice A2 l2 k2] 62)) 62 #[.bool c2, .slice A3 l3 k3, .slice A4 l4 k4]; obtain ⟨e0, e1, e2, g0, g1, g2⟩ := hQ0.three; clear hb1 hn p1 p2 p3 p4 q)
        | (go_at_call 53; refine (CZ.out _ _ _ Hq.out.2.2.1 Hq.out.2.2.2).mono ?_; rintro e W ⟨rfl, hbz⟩; replace HB1 := Lib.hid (HB1.out.trans (hbz.mono HB1.out.size)); replace hz := hz.below hbz hz.lt; replace hA := hA.below hbz hA.lt; have hQ := hQ0.below hbz hQ0.lt; replace Hq := Lib.hid (And.intro (Hq.out.1.below hbz (Nat.le_refl _)) (And.intro (Hq.out.2.1.below hbz (Nat.le_refl _)) (And.intro (Hq.out.2.2.1.below hbz (Nat.le_refl _)) (Hq.out.2.2.2.below hbz (Nat.le_refl _))))); clear hbz))
      rw [show (w1.alloc (.cells #[.bool c1, .slice A1 l1 k1, .slice A2 l2 k2] 62)).heap.size = w1.heap.size + 1 by simp] at hQ
      have hsz : w.heap.size + 1 + 1 ≤ W.heap.size := by have := hz.lt; omega
      have hq0 : Boxy W (w.heap.size + 1 + 1) 24 := ⟨_, _, _, hz⟩
      have ne1 : w.heap.size + 1 + 1 ≠ w1.heap.size := by omega
      have ne2 : w.heap.size + 1 + 1 ≠ w1.heap.size + 1 := by omega
      go_region_held3 (fun w' => w'.cell? ⟨w1.heap.size, 0, none⟩ = some (.bool c1) ∧ w'.cell? ⟨w1.heap.size, 1, none⟩ = some (.slice A1 l1 k1) ∧ w'.cell? ⟨w1.heap.size, 2, none⟩ = some (.slice A2 l2 k2) ∧ w'.cell? ⟨w1.heap.size + 1, 0, none⟩ = some (.bool c2) ∧ w'.cell? ⟨w1.heap.size + 1, 1, none⟩ = some (.slice A3 l3 k3) ∧ w'.cell? ⟨w1.heap.size + 1, 2, none⟩ = some (.slice A4 l4 k4) ∧ Box w' w1.heap.size 62 #[.bool c1, .slice A1 l1 k1, .slice A2 l2 k2] ∧ Box w' (w1.heap.size + 1) 62 #[.bool c2, .slice A3 l3 k3, .slice A4 l4 k4] ∧ Below (w.heap.size + 1 + 1) W w' ∧ Boxy w' (w.heap.size + 1 + 1) 24)
        ((refine holdG ?_ ?_ ?_ ?_ <;> first | exact hA | exact hQ | exact (Below.refl _ W).drew | exact hq0.below (Below.refl _ W).drew | (refine Box.below (holdG1 (by assumption)) ?_ (holdG1 (by assumption)).lt; assumption) | (refine Box.below (holdG2 (by assumption)) ?_ (holdG2 (by assumption)).lt; assumption) | (refine stepB hsz (holdG3 (by assumption)) ?_; assumption) | (refine Boxy.below (holdG4 (by assumption)) ?_; assumption) | exact ((((holdG1 (by assumption)).other ne1 0 _).other ne1 1 _).other ne1 2 _) | exact ((((holdG2 (by assumption)).other ne2 0 _).other ne2 1 _).other ne2 2 _) | exact below_put3 (holdG3 (by assumption)) (Nat.le_refl _) _ _ _ | exact Boxy.put (holdG4 (by assumption)) _ _ _))
        (first
          | (go_at_call 54; refine (CN.out _ _ _ (Hq.out.2.2.1.below (Below.refl _ W).drew (Nat.le_refl _)) (Hq.out.2.2.2.below (Below.refl _ W).drew (Nat.le_refl _))).mono ?_; rintro e w4 ⟨⟨v, rfl, vn3, vd3, rfl, hn3, hd3⟩, hb4⟩; have hc4 : Below W.heap.size W w4 := below_of_drew hb4; have HB4 := Lib.hid (HB1.out.trans (hc4.mono HB1.out.size)); have Hq4 := Lib.hid (And.intro (Hq.out.1.below hc4 (Nat.le_refl _)) (Hq.out.2.1.below hc4 (Nat.le_refl _))); have Hn3 := Lib.hid hn3; have Hd3 := Lib.hid hd3; clear hn3 hd3 hc4)
          | (go_at_call 49; refine (CA.out _ _ _ _ _ HB4.out Hq4.out.1 Hq4.out.2 Hn3.out Hd3.out).mono ?_; rintro e w5 ⟨⟨v, rfl, vN, vD, rfl, hN, hD⟩, hb5⟩; have HB5 := Lib.hid (HB4.out.trans (hb5.mono HB4.out.size)); have HN := Lib.hid hN; have HD := Lib.hid hD; clear hN hD)
          | (go_at_call 43; refine (CR.out vN vD _ HB5.out HN.out HD.out).mono ?_; rintro e w6 ⟨rfl, hb6⟩; obtain ⟨q0, q1, q2, hy⟩ := Boxy.below (holdG4 (by assumption)) hb6; obtain ⟨z0, z1, z2, f0, f1, f2⟩ := hy.three; have HB6 := Lib.hid (HB5.out.trans (hb6.mono HB5.out.size))))
      all_goals go_wp2_with fail
      all_goals obtain ⟨m0, m1, m2⟩ := hy.put3 (.bool rb) (.string rx) (.string ry)
      all_goals refine bodyPost_ret (v := .tuple #[.agg #[.bool rb, .string rx, .string ry], .bool rc]) (by simp [results, Tryz.results13, go_sem, m0, m1, m2]; done) rfl ⟨rfl, ?_⟩
      all_goals exact below_put3 HB6.out (by omega) _ _ _
    · rw [if_neg (by rw [decide_eq_true_eq]; exact hp)]
      rw [decide_eq_true (by omega : numOf x2 = 0)] at CZ
      clear hr hv1 hv2 m1 m2 m3 m4 m5 m6 m7 m8 k1 k2 l1' l2' l3' l4' hp
      go_enter Tryz.func13, Tryz.ntmps13
      go_wp2_with (first
        | (go_at_call 42; refine (C1.out _ HB.out).mono ?_; rintro e w1 ⟨⟨c1, A1, l1, k1, A2, l2, k2, c2, A3, l3, k3, A4, l4, k4, rfl, hn⟩, hb1⟩; obtain ⟨⟨e1, p1, p2⟩, e2, p3, p4⟩ := hn rfl; subst e1 e2; have HB1 := Lib.hid ((((HB.out.trans (hb1.mono HB.out.size))).alloc (HB.out.trans (hb1.mono HB.out.size)).size (.cells #[.bool c1, .slice A1 l1 k1, .slice A2 l2 k2] 62)).alloc (((HB.out.trans (hb1.mono HB.out.size))).alloc (HB.out.trans (hb1.mono HB.out.size)).size _).size (.cells #[.bool c2, .slice A3 l3 k3, .slice A4 l4 k4] 62)); have hlt := (hR.below hb1 hR.lt).lt; have hz := ((hR.below hb1 hR.lt).alloc (.cells #[.bool c1, .slice A1 l1 k1, .slice A2 l2 k2] 62)).alloc (.cells #[.bool c2, .slice A3 l3 k3, .slice A4 l4 k4] 62); have q := ((Below.refl w1.heap.size w1).alloc (Nat.le_refl _) (.cells #[.bool c1, .slice A1 l1 k1, .slice A2 l2 k2] 62)).alloc (by simp) (.cells #[.bool c2, .slice A3 l3 k3, .slice A4 l4 k4] 62); have Hq := Lib.hid (And.intro (p1.below q (Nat.le_refl _)) (And.intro (p2.below q (Nat.le_refl _)) (And.intro (p3.below q (Nat.le_refl _)) (p4.below q (Nat.le_refl _))))); have hA := (Box.new w1 62 #[.bool c1, .slice A1 l1 k1, .slice A2 l2 k2]).alloc (.cells #[.bool c2, .slice A3 l3 k3, .slice A4 l4 k4] 62); have hQ0 := Box.new (w1.alloc (.cells #[.bool c1, .slice A1 l1 k1, .slice A2 l2 k2] 62)) 62 #[.bool c2, .slice A3 l3 k3, .slice A4 l4 k4]; obtain ⟨e0, e1, e2, g0, g1, g2⟩ := hQ0.three; clear hb1 hn p1 p2 p3 p4 q)
        | (go_at_call 53; refine (CZ.out _ _ _ Hq.out.2.2.1 Hq.out.2.2.2).mono ?_; rintro e W ⟨rfl, hbz⟩; replace HB1 := Lib.hid (HB1.out.trans (hbz.mono HB1.out.size)); replace hz := hz.below hbz hz.lt; obtain ⟨z0, z1, z2, f0, f1, f2⟩ := hz.three; clear hbz))
      obtain ⟨m0, m1, m2⟩ := hz.put3 (.bool false) (.string ⟨#[]⟩) (.string ⟨#[]⟩)
      refine bodyPost_ret (v := noRat) (by simp [results, Tryz.results13, go_sem, noRat, m0, m1, m2]; done) rfl ⟨rfl, ?_⟩
      exact below_put3 HB1.out (by omega) _ _ _

end Go.Proofs.YtmmonglcbkefmaaGreatDoor
