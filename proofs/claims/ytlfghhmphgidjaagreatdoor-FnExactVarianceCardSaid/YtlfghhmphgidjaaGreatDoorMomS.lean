/-
  The model's moments of a distribution.
-/
import Derived.Test.YtlfghhmphgidjaaGreatDoorMomP
import Derived.Test.YtlfghhmphgidjaaGreatDoorDistS
namespace Go.Proofs.YtlfghhmphgidjaaGreatDoor
open Go.RowKit Num

theorem step3w {W w1 w2 w3 : World} (a : Below W.drew.heap.size W.drew w1) (b : Below w1.heap.size w1 w2) (c : Below w2.heap.size w2 w3) : Below W.heap.size W w3 :=
  have h := (Below.refl W.heap.size W).drew.trans a
  (h.trans (b.mono h.size)).trans (c.mono (h.trans (b.mono h.size)).size)

set_option maxRecDepth 100000 in
set_option maxHeartbeats 3200000 in
theorem momS_any (two : Bool) (A0 : Option Addr) (n cap : Nat) (F : Nat → Int × Bool × ByteArray × ByteArray) (w : World) (hn : n ≤ 60) (hA : PtAt w A0 n F) (hok : ptsOk F n = true) (pw : Int) (hpw : (pw == 2) = two) :
    Calls Tryz.prog 94 #[.agg #[.slice A0 n cap], .int .i64 pw] w fun e w' => (∃ v, e = .returned v ∧ IsQ w' v (momT F two n).1 (momT F two n).2.1 (momT F two n).2.2) ∧ Below w.heap.size w w' := by
  have HA := Lib.hid hA; clear hA
  have HP := Lib.hid hok
  clear hok
  have C0 : Hid (∀ W, Calls Tryz.prog 68 #[.int .i64 0] W fun e w' => (∃ v, e = .returned v ∧ IsQ w' v false 0 1) ∧ Below W.heap.size W w') := Lib.hid fun W => intQ_any 0 W (by omega) (by omega)
  have hD := (Box.new w 32 #[.slice A0 n cap]).alloc (.cells #[.bool false, .slice none 0 0, .slice none 0 0] 78)
  have hR := Box.new (w.alloc (.cells #[.slice A0 n cap] 32)) 78 #[.bool false, .slice none 0 0, .slice none 0 0]
  rw [show (w.alloc (.cells #[.slice A0 n cap] 32)).heap.size = w.heap.size + 1 by simp] at hR
  have hB := ((Below.refl w.heap.size w).alloc (Nat.le_refl _) (.cells #[.slice A0 n cap] 32)).alloc (by simp) (.cells #[.bool false, .slice none 0 0, .slice none 0 0] 78)
  go_enter Tryz.func94, Tryz.ntmps94
  go_wp2_with (go_at_call 68; refine (C0.out _).mono ?_; rintro e w1 ⟨⟨v, rfl, vn, vd, rfl, hvn, hvd⟩, hb1⟩; obtain ⟨A1, c1, rfl, _, _, _⟩ := RowF.open hvn; obtain ⟨A2, c2, rfl, _, _, _⟩ := RowF.open hvd; replace hR := hR.below hb1 hR.lt; have hd1 := ((hD.below hb1 hD.lt).alloc (.cells #[.bool false, .slice A1 (ln 10000 0) c1, .slice A2 (ln 10000 1) c2] 78)).cell 0; replace hB := hB.trans (hb1.mono hB.size))
  have hQ := Box.new w1 78 #[.bool false, .slice A1 (ln 10000 0) c1, .slice A2 (ln 10000 1) c2]
  have hB1 := (Below.refl w1.heap.size w1).alloc (Nat.le_refl _) (.cells #[.bool false, .slice A1 (ln 10000 0) c1, .slice A2 (ln 10000 1) c2] 78)
  have hRQ : w.heap.size + 1 < w1.heap.size := hR.lt
  replace hR := hR.below hB1 hR.lt
  replace hvn := hvn.below hB1 (Nat.le_refl _)
  replace hvd := hvd.below hB1 (Nat.le_refl _)
  replace hB := hB.trans (hB1.mono hB.size)
  obtain ⟨Q, hQd⟩ : ∃ Q, Q = w1.heap.size := ⟨_, rfl⟩
  rw [← hQd] at hQ hRQ ⊢
  obtain ⟨ww, hww⟩ : ∃ ww, ww = w1.alloc (.cells #[.bool false, .slice A1 (ln 10000 0) c1, .slice A2 (ln 10000 1) c2] 78) := ⟨_, rfl⟩
  rw [← hww] at hQ hR hvn hvd hB ⊢
  clear hww hB1 hb1 hQd C0 hd1 hD
  go_loopg [13] n (fun q iv wr => ∃ k : Nat, k + q = n ∧ iv = .int .i64 (k : Nat) ∧ (∃ A1 l1 c1 A2 l2 c2, Box wr Q 78 #[.bool (momT F two k).1, .slice A1 l1 c1, .slice A2 l2 c2] ∧ Nums 3 .i64 10000 wr (.slice A1 l1 c1) (momT F two k).2.1 ∧ Nums 3 .i64 10000 wr (.slice A2 l2 c2) (momT F two k).2.2) ∧ Box wr (w.heap.size + 1) 78 #[.bool false, .slice none 0 0, .slice none 0 0] ∧ Below w.heap.size w wr)
  case atStart => exact ⟨0, by omega, rfl, ⟨A1, _, c1, A2, _, c2, hQ, hvn, hvd⟩, hR, hB⟩
  case round =>
    obtain ⟨k, hkq, rfl, ⟨A3, l3, c3, A4, l4, c4, hQr, hn3, hn4⟩, hRr, hbel⟩ := hrel
    clear hQ hR hvn hvd hB
    obtain ⟨o, ho⟩ : ∃ o, o = momT F two k := ⟨_, rfl⟩
    rw [← ho] at hQr hn3 hn4
    by_cases hk0 : k < n
    · have hAw : PtAt wr A0 n F := HA.out.below hbel (Nat.le_refl _)
      obtain ⟨b, off, rfl, hb, r0, r1, r2, r3⟩ := hAw.at_ hk0
      have hpo := ptOk_parts (ptsOk_at HP.out hk0)
      have hmf := momQ_fit (two := two) (ptsOk_at HP.out hk0)
      have hsum : momT F two (k + 1) = addO o.1 o.2.1 o.2.2 (momQ F two k).1 (momQ F two k).2.1 (momQ F two k).2.2 := by
        show addO _ _ _ (momQ F two (0 + k)).1 _ _ = _
        rw [Nat.zero_add, ho]; rfl
      have hmq : momQ F two k = mulO (decide (powV two (F k).1 < 0)) (powV two (F k).1).natAbs 1 (F k).2.1 (numOf (F k).2.2.1) (numOf (F k).2.2.2) := rfl
      obtain ⟨⟨pv, rb, rx, ry⟩, hF⟩ : ∃ t, t = F k := ⟨_, rfl⟩
      rw [← hF] at r0 r1 r2 r3 hmq hpo
      simp only at r0 r1 r2 r3 hmq hpo
      have g1 := hpo.1.1
      have g2 := hpo.1.2
      have g3 := hpo.2.2.1
      clear hpo
      obtain ⟨v1, v2, v3, v4⟩ := validR_num g3
      have hln := momT_ln (two := two) HP.out (show k ≤ n by omega) (by omega)
      have hlow := momT_low (two := two) HP.out (show k ≤ n by omega)
      rw [← ho] at hln hlow
      have hx := num_lt_ten v1
      have hy := num_lt_ten v2
      have hpos := hlow.pos
      have hpf := powV_fit two pv g1 g2
      obtain ⟨x, hxd⟩ : ∃ x, x = powV two pv := ⟨_, rfl⟩
      rw [← hxd] at hmq hpf
      have hxl := pow_ln (x := x.natAbs) (by omega)
      obtain ⟨⟨ms, mN, mD⟩, hm⟩ : ∃ o, o = momQ F two k := ⟨_, rfl⟩
      rw [← hm] at hmq hsum hmf
      simp only at hsum hmf
      unfold mulO at hmq
      simp only [Prod.mk.injEq] at hmq
      obtain ⟨e1, e2, e3⟩ := hmq
      have hmD := hmf.1.pos
      simp only at hmD
      have hN10 : ln 10000 mN ≤ 137438953472 := by
        have := ln_of_pow (k := 1) (by omega : 2 ≤ 10000) million_dec (by rw [Nat.pow_one]; exact hmf.2.1)
        omega
      have hD10 : ln 10000 mD ≤ 137438953472 := by
        have := ln_of_pow (k := 1) (by omega : 2 ≤ 10000) capN_dec (by rw [Nat.pow_one]; exact hmf.2.2)
        omega
      have hl1 : ln 10000 1 ≤ 1 := Nat.le_of_eq (Num.ln_one 10000 (by omega))
      have hlm := ln_mul 10000 x.natAbs (numOf rx) (by omega)
      have CI : Hid (∀ W, _) := Lib.hid fun W => intQ_any x W (by omega) (by omega)
      have CQ : Hid (∀ W, _) := Lib.hid fun W => toQ_any rb rx ry W v1 v2
      have CM : Hid (∀ (u1 u2 u3 u4 : Value) W, Nums 3 .i64 10000 W u1 x.natAbs → Nums 3 .i64 10000 W u2 1 → Nums 3 .i64 10000 W u3 (numOf rx) → Nums 3 .i64 10000 W u4 (numOf ry) → Calls Tryz.prog 86 #[.agg #[.bool (decide (x < 0)), u1, u2], .agg #[.bool rb, u3, u4]] W fun e w' => (∃ v, e = .returned v ∧ IsQ w' v ms mN mD) ∧ Below W.heap.size W w') :=
        Lib.hid fun u1 u2 u3 u4 W q1 q2 q3 q4 => by
          have h := mulQ_any (decide (x < 0)) rb u1 u2 u3 u4 x.natAbs 1 (numOf rx) (numOf ry) W q1 q2 q3 q4 (by omega) (by omega) (by omega) (by omega) (x.natAbs * numOf rx) (1 * numOf ry) rfl rfl (by rw [Nat.one_mul]; omega) (by rw [Nat.one_mul]; omega) (by omega) _ rfl
          rw [← e1, ← e2, ← e3] at h
          exact h
      have CA : Hid (∀ (u1 u2 : Value) W, Nums 3 .i64 10000 W (.slice A3 l3 c3) o.2.1 → Nums 3 .i64 10000 W (.slice A4 l4 c4) o.2.2 → Nums 3 .i64 10000 W u1 mN → Nums 3 .i64 10000 W u2 mD → _) :=
        Lib.hid fun u1 u2 W g1 g2 g3 g4 => addQ_as o.1 ms _ _ u1 u2 _ _ _ _ W g1 g2 g3 g4 (by omega) (by omega) (by omega) (by omega) hpos hmD
      rw [← hsum] at CA
      have hT := Box.new wr 93 #[.int .i64 pv, .bool rb, .string rx, .string ry]
      replace hQr := hQr.alloc (.cells #[.int .i64 pv, .bool rb, .string rx, .string ry] 93)
      replace hRr := hRr.alloc (.cells #[.int .i64 pv, .bool rb, .string rx, .string ry] 93)
      have hal := (Below.refl wr.heap.size wr).alloc (Nat.le_refl _) (.cells #[.int .i64 pv, .bool rb, .string rx, .string ry] 93)
      have H3 := Lib.hid (hn3.below hal (Nat.le_refl _))
      have H4 := Lib.hid (hn4.below hal (Nat.le_refl _))
      replace hbel := hbel.trans (hal.mono hbel.size)
      obtain ⟨t0, t1, t2, t3, _, _, _, _⟩ := hT.four
      have Hx := Lib.hid hxd
      have hwv : two = true → IntKind.i64.wrap (pv * pv) = x := fun e => by subst e; rw [Hx.out]; unfold powV; rw [if_pos rfl]; have h := powV_fit true pv g1 g2; unfold powV at h; rw [if_pos rfl] at h; exact IntWalk.i64_in _ (by omega)
      have hwn : two = false → pv = x := fun e => by subst e; rw [Hx.out]; rfl
      have Hwv := Lib.hid hwv
      have Hwn := Lib.hid hwn
      clear hb hAw hal hn3 hn4 v1 v2 v3 v4 hln hlow hx hy hpos hsum hF ho hmf hm e1 e2 e3 hmD hN10 hD10 hl1 hlm hxl hpf hxd hwv hwn g1 g2 g3
      go_upto_if 20 with fail
      go_cut [8] (fun s wx => s = .int .i64 x ∧ wx = wr.alloc (.cells #[.int .i64 pv, .bool rb, .string rx, .string ry] 93))
      case first =>
        cases two with
        | true =>
          have hv := Hwv.out rfl
          go_wp2_with fail
          go_meet
          exact ⟨rfl, rfl⟩
        | false =>
          have hv := Hwn.out rfl
          subst hv
          go_wp2_with fail
          go_meet
          exact ⟨rfl, rfl⟩
      obtain ⟨rfl, hwc⟩ := hcut
      rw [← hwc] at hT hQr hRr H3 H4 hbel
      clear hwc Hwv Hwn Hx t0 t1 t2 t3 r0 r1 r2 r3
      obtain ⟨z0, z1, z2, _, _, _⟩ := hQr.three
      obtain ⟨t0, t1, t2, t3, _, _, _, _⟩ := hT.four
      go_upto_region 8 with fail
      go_region_with (first
        | (go_at_call 68; refine (CI.out _).mono ?_; rintro e wi ⟨⟨v, rfl, vi, vj, rfl, hvi, hvj⟩, hbi⟩; obtain ⟨A5, c5, rfl, _, _, _⟩ := RowF.open hvi; obtain ⟨A6, c6, rfl, _, _, _⟩ := RowF.open hvj; have hQi := (by first | exact hQt.below hbi hQt.lt | exact box_drew hQr hbi : Box wi Q 78 #[.bool o.1, .slice A3 l3 c3, .slice A4 l4 c4]); have hTi := (by first | exact hTt.below hbi hTt.lt | exact box_drew hT hbi : Box wi wr.heap.size 93 #[.int .i64 pv, .bool rb, .string rx, .string ry]); obtain ⟨y0, y1, y2, _, _, _⟩ := hQi.three; obtain ⟨s0, s1, s2, s3, _, _, _, _⟩ := hTi.four)
        | (go_at_call 79; refine (CQ.out _).mono ?_; rintro e wt ⟨⟨v, rfl, vn, vd, rfl, hvn, hvd⟩, hbt⟩; obtain ⟨A7, c7, rfl, _, _, _⟩ := RowF.open hvn; obtain ⟨A8, c8, rfl, _, _, _⟩ := RowF.open hvd; have hQt := (by first | exact hQi.below hbt hQi.lt | exact box_drew hQr hbt : Box wt Q 78 #[.bool o.1, .slice A3 l3 c3, .slice A4 l4 c4]); have hTt := (by first | exact hTi.below hbt hTi.lt | exact box_drew hT hbt : Box wt wr.heap.size 93 #[.int .i64 pv, .bool rb, .string rx, .string ry]); obtain ⟨y0, y1, y2, _, _, _⟩ := hQt.three; obtain ⟨s0, s1, s2, s3, _, _, _, _⟩ := hTt.four)
        | (go_at_call 86; refine (CM.out _ _ _ _ _ (by first | exact hvi | exact hvi.below hbt (Nat.le_refl _)) (by first | exact hvj | exact hvj.below hbt (Nat.le_refl _)) (by first | exact hvn | exact hvn.below hbi (Nat.le_refl _)) (by first | exact hvd | exact hvd.below hbi (Nat.le_refl _))).mono ?_; rintro e wm ⟨⟨v, rfl, vm, vk, rfl, hvm, hvk⟩, hbm⟩; obtain ⟨A9, c9, rfl, _, _, _⟩ := RowF.open hvm; obtain ⟨A10, c10, rfl, _, _, _⟩ := RowF.open hvk; have hQm := (by first | exact hQi.below hbm hQi.lt | exact hQt.below hbm hQt.lt : Box wm Q 78 #[.bool o.1, .slice A3 l3 c3, .slice A4 l4 c4]); have hAll := (by first | exact step3w hbi hbt hbm | exact step3w hbt hbi hbm : Below wc.heap.size wc wm); obtain ⟨y0, y1, y2, _, _, _⟩ := hQm.three)
        | (go_at_call 84; refine (CA.out _ _ _ (H3.out.below hAll (Nat.le_refl _)) (H4.out.below hAll (Nat.le_refl _)) hvm hvk).mono ?_; rintro e w4 ⟨⟨v, rfl, vN, vD, rfl, hvN, hvD⟩, hb4⟩; obtain ⟨A11, c11, rfl, _, _, _⟩ := RowF.open hvN; obtain ⟨A12, c12, rfl, _, _, _⟩ := RowF.open hvD; have hQ4 := hQm.below hb4 hQm.lt; obtain ⟨x0, x1, x2, f0, f1, f2⟩ := hQ4.three))
      all_goals go_wp2_with fail
      all_goals have h24 := hAll.trans (hb4.mono hAll.size)
      all_goals have hR4 := hRr.below h24 hRr.lt
      all_goals go_roundg (gk - 1)
      all_goals first
      | omega
      | exact ⟨k + 1, by omega, by go_num, ⟨A11, _, c11, A12, _, c12, ((hQ4.set 0 _).set 1 _).set 2 _, Nums.put3 hvN hQ4 (by decide) _ _ _, Nums.put3 hvD hQ4 (by decide) _ _ _⟩, ((hR4.other (by omega) 0 _).other (by omega) 1 _).other (by omega) 2 _, below_put3 (hbel.trans (h24.mono hbel.size)) (by omega) _ _ _⟩
    · obtain rfl : k = n := by omega
      have Ho := Lib.hid ho
      clear ho
      obtain ⟨z0, z1, z2, _, _, _⟩ := hQr.three
      obtain ⟨y0, y1, y2, f0, f1, f2⟩ := hRr.three
      go_wp2_with fail
      obtain ⟨m0, m1, m2⟩ := hRr.put3 (.bool o.1) (.slice A3 l3 c3) (.slice A4 l4 c4)
      refine bodyPost_ret (v := .agg #[.bool o.1, .slice A3 l3 c3, .slice A4 l4 c4]) (by simp [results, Tryz.results94, go_sem, m0, m1, m2]; done) rfl ⟨⟨_, rfl, by rw [← Ho.out]; exact ⟨_, _, rfl, Nums.put3 hn3 hRr (by decide) _ _ _, Nums.put3 hn4 hRr (by decide) _ _ _⟩⟩, ?_⟩
      exact below_put3 hbel (by omega) _ _ _

set_option maxRecDepth 100000 in
set_option maxHeartbeats 3200000 in
theorem expS_any (A0 : Option Addr) (n cap : Nat) (F : Nat → Int × Bool × ByteArray × ByteArray) (w : World) (hn : n ≤ 1048576) (hA : PtAt w A0 n F) (hs : ∀ j, j < n → (F j).2.2.1.size ≤ 9223372036854775807 ∧ (F j).2.2.2.size ≤ 9223372036854775807) :
    Calls Tryz.prog 41 #[.agg #[.slice A0 n cap]] w fun e w' => e = .returned (expRes F n) ∧ Below w.heap.size w w' := by
  have CV : Hid (∀ W, Below w.heap.size w W → _) := Lib.hid fun W hW => validD_any A0 n cap F W hn (hA.below hW (Nat.le_refl _)) hs
  have hD := (Box.new w 32 #[.slice A0 n cap]).alloc (.cells #[.bool false, .string ⟨#[]⟩, .string ⟨#[]⟩] 27)
  have hR := Box.new (w.alloc (.cells #[.slice A0 n cap] 32)) 27 #[.bool false, .string ⟨#[]⟩, .string ⟨#[]⟩]
  rw [show (w.alloc (.cells #[.slice A0 n cap] 32)).heap.size = w.heap.size + 1 by simp] at hR
  have hB := ((Below.refl w.heap.size w).alloc (Nat.le_refl _) (.cells #[.slice A0 n cap] 32)).alloc (by simp) (.cells #[.bool false, .string ⟨#[]⟩, .string ⟨#[]⟩] 27)
  have hd0 := hD.cell 0
  unfold expRes
  cases hv : distOk F n with
  | false =>
    rw [hv] at CV
    clear hv hA hs
    rw [if_neg (by decide)]
    go_enter Tryz.func41, Tryz.ntmps41
    go_wp2_with (go_at_call 61; refine (CV.out _ hB).mono ?_; rintro e w1 ⟨rfl, hb1⟩; have hB1 := hB.trans (hb1.mono hB.size); have hR1 := hR.below hb1 hR.lt; obtain ⟨z0, z1, z2, f0, f1, f2⟩ := hR1.three)
    obtain ⟨m0, m1, m2⟩ := hR1.put3 (.bool false) (.string ⟨#[]⟩) (.string ⟨#[]⟩)
    refine bodyPost_ret (v := noRat) (by simp [results, Tryz.results41, go_sem, noRat, m0, m1, m2]; done) rfl ⟨rfl, ?_⟩
    exact below_put3 hB1 (by omega) _ _ _
  | true =>
    rw [hv] at CV
    obtain ⟨hn6, hok, _⟩ := distOk_parts hv
    have CM : Hid (∀ W, Below w.heap.size w W → _) := Lib.hid fun W hW => momS_any false A0 n cap F W hn6 (hA.below hW (Nat.le_refl _)) hok 1 (by decide)
    have hln := momT_ln (two := false) hok (Nat.le_refl n) hn6
    have hlow := momT_low (two := false) hok (Nat.le_refl n)
    obtain ⟨o, ho⟩ : ∃ o, o = momT F false n := ⟨_, rfl⟩
    rw [← ho] at CM hln hlow ⊢
    have CR : Hid (∀ (u1 u2 : Value) W, Nums 3 .i64 10000 W u1 o.2.1 → Nums 3 .i64 10000 W u2 o.2.2 → _) :=
      Lib.hid fun u1 u2 W g1 g2 => rat_of_low o.1 u1 u2 o.2.1 o.2.2 W g1 g2 hlow.pos hlow.gcd hlow.sign (by omega) (by omega)
    obtain ⟨rb, rx, ry, rc, hres⟩ := ratRes_shape o.1 o.2.1 o.2.2
    rw [if_pos rfl]
    rw [hres] at CR ⊢
    clear hv hA hs hln hlow hres ho hok
    go_enter Tryz.func41, Tryz.ntmps41
    go_wp2_with (first
      | (go_at_call 61; refine (CV.out _ hB).mono ?_; rintro e w1 ⟨rfl, hb1⟩; have hB1 := hB.trans (hb1.mono hB.size); have hR1 := hR.below hb1 hR.lt; have hd1 := (hD.below hb1 hD.lt).cell 0)
      | (go_at_call 94; refine (CM.out _ hB1).mono ?_; rintro e w2 ⟨⟨v, rfl, vn, vd, rfl, hvn, hvd⟩, hb2⟩; obtain ⟨A5, c5, rfl, _, _, _⟩ := RowF.open hvn; obtain ⟨A6, c6, rfl, _, _, _⟩ := RowF.open hvd; have hB2 := hB1.trans (hb2.mono hB1.size); have hR2 := hR1.below hb2 hR1.lt)
      | (go_at_call 62; refine (CR.out _ _ _ hvn hvd).mono ?_; rintro e w3 ⟨rfl, hb3⟩; have hB3 := hB2.trans (hb3.mono hB2.size); have hR3 := hR2.below hb3 hR2.lt; obtain ⟨z0, z1, z2, f0, f1, f2⟩ := hR3.three))
    obtain ⟨m0, m1, m2⟩ := hR3.put3 (.bool rb) (.string rx) (.string ry)
    refine bodyPost_ret (v := .tuple #[.agg #[.bool rb, .string rx, .string ry], .bool rc]) (by simp [results, Tryz.results41, go_sem, m0, m1, m2]; done) rfl ⟨rfl, ?_⟩
    exact below_put3 hB3 (by omega) _ _ _

end Go.Proofs.YtlfghhmphgidjaaGreatDoor
