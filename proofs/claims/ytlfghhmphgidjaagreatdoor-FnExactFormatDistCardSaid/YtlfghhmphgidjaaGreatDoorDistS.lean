/-
  The model's sum of a distribution's masses, whether it is valid, and its MassOf.
-/
import Derived.Test.YtlfghhmphgidjaaGreatDoorShape
namespace Go.Proofs.YtlfghhmphgidjaaGreatDoor
open Go.RowKit Num

set_option maxRecDepth 100000 in
set_option maxHeartbeats 3200000 in
theorem sumS_any (A0 : Option Addr) (n cap : Nat) (F : Nat → Int × Bool × ByteArray × ByteArray) (w : World) (hn : n ≤ 60) (hA : PtAt w A0 n F) (hok : ptsOk F n = true) :
    Calls Tryz.prog 63 #[.agg #[.slice A0 n cap]] w fun e w' => (∃ v, e = .returned v ∧ IsQ w' v (total F n).1 (total F n).2.1 (total F n).2.2) ∧ Below w.heap.size w w' := by
  have HA := Lib.hid hA; clear hA
  have HOK := Lib.hid (ptsOk_rats hok)
  have HP := Lib.hid hok
  clear hok
  have C0 : Hid (∀ W, Calls Tryz.prog 68 #[.int .i64 0] W fun e w' => (∃ v, e = .returned v ∧ IsQ w' v false 0 1) ∧ Below W.heap.size W w') := Lib.hid fun W => intQ_any 0 W (by omega) (by omega)
  have hD := (Box.new w 32 #[.slice A0 n cap]).alloc (.cells #[.bool false, .slice none 0 0, .slice none 0 0] 78)
  have hR := Box.new (w.alloc (.cells #[.slice A0 n cap] 32)) 78 #[.bool false, .slice none 0 0, .slice none 0 0]
  rw [show (w.alloc (.cells #[.slice A0 n cap] 32)).heap.size = w.heap.size + 1 by simp] at hR
  have hB := ((Below.refl w.heap.size w).alloc (Nat.le_refl _) (.cells #[.slice A0 n cap] 32)).alloc (by simp) (.cells #[.bool false, .slice none 0 0, .slice none 0 0] 78)
  go_enter Tryz.func63, Tryz.ntmps63
  go_wp2_with (go_at_call 68; refine (C0.out _).mono ?_; rintro e w1 ⟨⟨v, rfl, vn, vd, rfl, hvn, hvd⟩, hb1⟩; obtain ⟨A1, c1, rfl, _, _, _⟩ := RowF.open hvn; obtain ⟨A2, c2, rfl, _, _, _⟩ := RowF.open hvd; replace hR := hR.below hb1 hR.lt; have hd1 := ((hD.below hb1 hD.lt).alloc (.cells #[.bool false, .slice A1 (ln 10000 0) c1, .slice A2 (ln 10000 1) c2] 78)).cell 0; replace hB := hB.trans (hb1.mono hB.size))
  have hQ := Box.new w1 78 #[.bool false, .slice A1 (ln 10000 0) c1, .slice A2 (ln 10000 1) c2]
  have hB1 := (Below.refl w1.heap.size w1).alloc (Nat.le_refl _) (.cells #[.bool false, .slice A1 (ln 10000 0) c1, .slice A2 (ln 10000 1) c2] 78)
  have hRQ : w.heap.size + 1 < w1.heap.size := hR.lt
  replace hR := hR.below hB1 hR.lt
  replace hvn := hvn.below hB1 (Nat.le_refl _)
  replace hvd := hvd.below hB1 (Nat.le_refl _)
  replace hB := hB.trans (hB1.mono hB.size)
  obtain ⟨Q, hQd⟩ : ∃ Q, Q = w1.heap.size := ⟨_, rfl⟩
  rw [← hQd] at hQ hRQ ⊢
  obtain ⟨ww, hww⟩ : ∃ ww, ww = w1.alloc (.cells #[.bool false, .slice A1 (ln 10000 0) c1, .slice A2 (ln 10000 1) c2] 78) := ⟨_, rfl⟩
  rw [← hww] at hQ hR hvn hvd hB ⊢
  clear hww hB1 hb1 hQd C0 hd1 hD
  go_loopg [10] n (fun q iv wr => ∃ k : Nat, k + q = n ∧ iv = .int .i64 (k : Nat) ∧ (∃ A1 l1 c1 A2 l2 c2, Box wr Q 78 #[.bool (total F k).1, .slice A1 l1 c1, .slice A2 l2 c2] ∧ Nums 3 .i64 10000 wr (.slice A1 l1 c1) (total F k).2.1 ∧ Nums 3 .i64 10000 wr (.slice A2 l2 c2) (total F k).2.2) ∧ Box wr (w.heap.size + 1) 78 #[.bool false, .slice none 0 0, .slice none 0 0] ∧ Below w.heap.size w wr)
  case atStart => exact ⟨0, by omega, rfl, ⟨A1, _, c1, A2, _, c2, hQ, hvn, hvd⟩, hR, hB⟩
  case round =>
    obtain ⟨k, hkq, rfl, ⟨A3, l3, c3, A4, l4, c4, hQr, hn3, hn4⟩, hRr, hbel⟩ := hrel
    clear hQ hR hvn hvd hB
    obtain ⟨o, ho⟩ : ∃ o, o = total F k := ⟨_, rfl⟩
    rw [← ho] at hQr hn3 hn4
    by_cases hk0 : k < n
    · have hAw : PtAt wr A0 n F := HA.out.below hbel (Nat.le_refl _)
      obtain ⟨b, off, rfl, hb, r0, r1, r2, r3⟩ := hAw.at_ hk0
      have hpo := ptOk_parts (ptsOk_at HP.out hk0)
      have hsum : total F (k + 1) = addO o.1 o.2.1 o.2.2 (F k).2.1 (numOf (F k).2.2.1) (numOf (F k).2.2.2) := by
        show addO _ _ _ (qOf (massF F) (0 + k)).1 _ _ = _
        rw [Nat.zero_add, ho]; rfl
      obtain ⟨⟨pv, rb, rx, ry⟩, hF⟩ : ∃ t, t = F k := ⟨_, rfl⟩
      rw [← hF] at r0 r1 r2 r3 hsum hpo
      simp only at r0 r1 r2 r3 hsum hpo
      obtain ⟨v1, v2, v3, v4⟩ := validR_num hpo.2.2.1
      have hln := sumQ_ln HOK.out (show 0 + k ≤ n by omega) (by omega)
      have hlow := sumQ_low HOK.out (show 0 + k ≤ n by omega)
      rw [show sumR (qOf (massF F)) 0 k = total F k from rfl, ← ho] at hln hlow
      have hx := num_lt_ten v1
      have hy := num_lt_ten v2
      have hpos := hlow.pos
      have CQ : Hid (∀ W, _) := Lib.hid fun W => toQ_any rb rx ry W v1 v2
      have CA : Hid (∀ (u1 u2 : Value) W, Nums 3 .i64 10000 W (.slice A3 l3 c3) o.2.1 → Nums 3 .i64 10000 W (.slice A4 l4 c4) o.2.2 → Nums 3 .i64 10000 W u1 (numOf rx) → Nums 3 .i64 10000 W u2 (numOf ry) → _) :=
        Lib.hid fun u1 u2 W g1 g2 g3 g4 => addQ_as o.1 rb _ _ u1 u2 _ _ _ _ W g1 g2 g3 g4 (by omega) (by omega) (by omega) (by omega) hpos (by omega)
      rw [← hsum] at CA
      have hT := Box.new wr 93 #[.int .i64 pv, .bool rb, .string rx, .string ry]
      replace hQr := hQr.alloc (.cells #[.int .i64 pv, .bool rb, .string rx, .string ry] 93)
      replace hRr := hRr.alloc (.cells #[.int .i64 pv, .bool rb, .string rx, .string ry] 93)
      have hal := (Below.refl wr.heap.size wr).alloc (Nat.le_refl _) (.cells #[.int .i64 pv, .bool rb, .string rx, .string ry] 93)
      have H3 := Lib.hid (hn3.below hal (Nat.le_refl _))
      have H4 := Lib.hid (hn4.below hal (Nat.le_refl _))
      replace hbel := hbel.trans (hal.mono hbel.size)
      clear hb hAw hal hn3 hn4 hpo v1 v2 v3 v4 hln hlow hx hy hpos hsum hF ho
      go_upto_region 5 with fail
      obtain ⟨w2, hW⟩ : ∃ W, W = wr.alloc (.cells #[.int .i64 pv, .bool rb, .string rx, .string ry] 93) := ⟨_, rfl⟩
      rw [← hW] at hT hQr hRr H3 H4 hbel ⊢
      clear hW r0 r1 r2 r3
      obtain ⟨z0, z1, z2, _, _, _⟩ := hQr.three
      obtain ⟨t0, t1, t2, t3, _, _, _, _⟩ := hT.four
      go_region_with (first
        | (go_at_call 79; refine (CQ.out _).mono ?_; rintro e w3 ⟨⟨v, rfl, vn, vd, rfl, hvn, hvd⟩, hb3⟩; obtain ⟨A5, c5, rfl, _, _, _⟩ := RowF.open hvn; obtain ⟨A6, c6, rfl, _, _, _⟩ := RowF.open hvd; have hQ3 := box_drew hQr hb3; obtain ⟨y0, y1, y2, _, _, _⟩ := hQ3.three)
        | (go_at_call 84; refine (CA.out _ _ _ ((H3.out.below (Below.refl _ w2).drew (Nat.le_refl _)).below hb3 (Nat.le_refl _)) ((H4.out.below (Below.refl _ w2).drew (Nat.le_refl _)).below hb3 (Nat.le_refl _)) hvn hvd).mono ?_; rintro e w4 ⟨⟨v, rfl, vN, vD, rfl, hvN, hvD⟩, hb4⟩; obtain ⟨A7, c7, rfl, _, _, _⟩ := RowF.open hvN; obtain ⟨A8, c8, rfl, _, _, _⟩ := RowF.open hvD; have hQ4 := hQ3.below hb4 hQ3.lt; obtain ⟨x0, x1, x2, f0, f1, f2⟩ := hQ4.three))
      all_goals go_wp2_with fail
      all_goals have h23 := (Below.refl w2.heap.size w2).drew.trans hb3
      all_goals have h24 := h23.trans (hb4.mono h23.size)
      all_goals have hR4 := hRr.below h24 hRr.lt
      all_goals go_roundg (gk - 1)
      all_goals first
      | omega
      | exact ⟨k + 1, by omega, by go_num, ⟨A7, _, c7, A8, _, c8, ((hQ4.set 0 _).set 1 _).set 2 _, Nums.put3 hvN hQ4 (by decide) _ _ _, Nums.put3 hvD hQ4 (by decide) _ _ _⟩, ((hR4.other (by omega) 0 _).other (by omega) 1 _).other (by omega) 2 _, below_put3 (hbel.trans (h24.mono hbel.size)) (by omega) _ _ _⟩
    · obtain rfl : k = n := by omega
      have Ho := Lib.hid ho
      clear ho
      obtain ⟨z0, z1, z2, _, _, _⟩ := hQr.three
      obtain ⟨y0, y1, y2, f0, f1, f2⟩ := hRr.three
      go_wp2_with fail
      obtain ⟨m0, m1, m2⟩ := hRr.put3 (.bool o.1) (.slice A3 l3 c3) (.slice A4 l4 c4)
      refine bodyPost_ret (v := .agg #[.bool o.1, .slice A3 l3 c3, .slice A4 l4 c4]) (by simp [results, Tryz.results63, go_sem, m0, m1, m2]; done) rfl ⟨⟨_, rfl, by rw [← Ho.out]; exact ⟨_, _, rfl, Nums.put3 hn3 hRr (by decide) _ _ _, Nums.put3 hn4 hRr (by decide) _ _ _⟩⟩, ?_⟩
      exact below_put3 hbel (by omega) _ _ _

set_option maxRecDepth 100000 in
set_option maxHeartbeats 3200000 in
theorem validD_any (A0 : Option Addr) (n cap : Nat) (F : Nat → Int × Bool × ByteArray × ByteArray) (w : World) (hn : n ≤ 1048576) (hA : PtAt w A0 n F) (hs : ∀ j, j < n → (F j).2.2.1.size ≤ 9223372036854775807 ∧ (F j).2.2.2.size ≤ 9223372036854775807) :
    Calls Tryz.prog 61 #[.agg #[.slice A0 n cap]] w fun e w' => e = .returned (.bool (distOk F n)) ∧ Below w.heap.size w w' := by
  have CS : Hid (∀ W, Below w.heap.size w W → _) := Lib.hid fun W hW => shape_any A0 n cap F W hn (hA.below hW (Nat.le_refl _)) hs
  have hD := Box.new w 32 #[.slice A0 n cap]
  have hd0 := hD.cell 0
  have hB := (Below.refl w.heap.size w).alloc (Nat.le_refl _) (.cells #[.slice A0 n cap] 32)
  unfold distOk
  cases hsh : (decide (n ≤ 60) && ptsOk F n) with
  | false =>
    rw [hsh] at CS
    clear hsh hA hs
    rw [Bool.false_and]
    go_enter Tryz.func61, Tryz.ntmps61
    go_wp2_with (go_at_call 116; refine (CS.out _ hB).mono ?_; rintro e w1 ⟨rfl, hb1⟩; have hB1 := hB.trans (hb1.mono hB.size))
    go_ret
    exact ⟨rfl, hB1⟩
  | true =>
    rw [hsh] at CS
    rw [Bool.and_eq_true, decide_eq_true_eq] at hsh
    obtain ⟨hn6, hok⟩ := hsh
    have CM : Hid (∀ W, Below w.heap.size w W → _) := Lib.hid fun W hW => sumS_any A0 n cap F W hn6 (hA.below hW (Nat.le_refl _)) hok
    have hln := sumQ_ln (ptsOk_rats hok) (show 0 + n ≤ n by omega) (by omega)
    have hlow := total_low hok
    have hpos := total_pos hok
    rw [show sumR (qOf (massF F)) 0 n = total F n from rfl] at hln
    obtain ⟨⟨sg, N, D⟩, ho⟩ : ∃ o, o = total F n := ⟨_, rfl⟩
    rw [← ho] at CM hln hlow hpos ⊢
    simp only at CM hln hpos ⊢
    obtain rfl : sg = false := hpos
    have hD0 := hlow.pos
    simp only at hD0
    have C1 : Hid (∀ W, Calls Tryz.prog 68 #[.int .i64 1] W fun e w' => (∃ v, e = .returned v ∧ IsQ w' v false 1 1) ∧ Below W.heap.size W w') := Lib.hid fun W => intQ_any 1 W (by omega) (by omega)
    have l1 : ln 10000 1 ≤ 137438953472 := by rw [Num.ln_one 10000 (by omega)]; omega
    have CC : Hid (∀ (u1 u2 u3 u4 : Value) W, Nums 3 .i64 10000 W u1 N → Nums 3 .i64 10000 W u2 D → Nums 3 .i64 10000 W u3 1 → Nums 3 .i64 10000 W u4 1 → _) :=
      Lib.hid fun u1 u2 u3 u4 W g1 g2 g3 g4 => cmpQ_any false false u1 u2 u3 u4 N D 1 1 W g1 g2 g3 g4 (fun _ => rfl) (fun _ => rfl) hD0 Nat.one_pos (by omega) (by omega) l1 l1
    obtain ⟨z, hz⟩ : ∃ z, z = cmpR false N D false 1 1 := ⟨_, rfl⟩
    have hzd : decide (z ≤ 0) = decide (N ≤ D) := by rw [hz]; exact cmp_one N D
    rw [← hz] at CC
    obtain ⟨dv, hdv⟩ : ∃ d, d = decide (N ≤ D) := ⟨_, rfl⟩
    rw [← hdv] at hzd ⊢
    rw [Bool.true_and]
    clear hA hs hln hlow hD0 hz hdv ho l1 hok
    go_enter Tryz.func61, Tryz.ntmps61
    go_wp2_with (first
      | (go_at_call 116; refine (CS.out _ hB).mono ?_; rintro e w1 ⟨rfl, hb1⟩; have hB1 := hB.trans (hb1.mono hB.size); have hd1 := (hD.below hb1 hD.lt).cell 0)
      | (go_at_call 63; refine (CM.out _ hB1).mono ?_; rintro e w2 ⟨⟨v, rfl, vn, vd, rfl, hvn, hvd⟩, hb2⟩; obtain ⟨A5, c5, rfl, _, _, _⟩ := RowF.open hvn; obtain ⟨A6, c6, rfl, _, _, _⟩ := RowF.open hvd; have hB2 := hB1.trans (hb2.mono hB1.size))
      | (go_at_call 68; refine (C1.out _).mono ?_; rintro e w3 ⟨⟨v, rfl, vN, vD, rfl, hvN, hvD⟩, hb3⟩; obtain ⟨A7, c7, rfl, _, _, _⟩ := RowF.open hvN; obtain ⟨A8, c8, rfl, _, _, _⟩ := RowF.open hvD; have hB3 := hB2.trans (hb3.mono hB2.size); replace hvn := hvn.below hb3 (Nat.le_refl _); replace hvd := hvd.below hb3 (Nat.le_refl _))
      | (go_at_call 96; refine (CC.out _ _ _ _ _ hvn hvd hvN hvD).mono ?_; rintro e w4 ⟨rfl, hb4⟩; have hB4 := hB3.trans (hb4.mono hB3.size)))
    go_ret
    exact ⟨rfl, hB4⟩

/-- What MassOf answers. -/
def massRes (F : Nat → Int × Bool × ByteArray × ByteArray) (n : Nat) : Value :=
  if distOk F n = true then ratRes (total F n).1 (total F n).2.1 (total F n).2.2 else noRat

theorem distOk_parts {F : Nat → Int × Bool × ByteArray × ByteArray} {n : Nat} (h : distOk F n = true) : n ≤ 60 ∧ ptsOk F n = true ∧ (total F n).2.1 ≤ (total F n).2.2 := by
  unfold distOk at h
  simp only [Bool.and_eq_true, decide_eq_true_eq] at h
  exact ⟨h.1.1, h.1.2, h.2⟩

set_option maxRecDepth 100000 in
set_option maxHeartbeats 3200000 in
theorem massS_any (A0 : Option Addr) (n cap : Nat) (F : Nat → Int × Bool × ByteArray × ByteArray) (w : World) (hn : n ≤ 1048576) (hA : PtAt w A0 n F) (hs : ∀ j, j < n → (F j).2.2.1.size ≤ 9223372036854775807 ∧ (F j).2.2.2.size ≤ 9223372036854775807) :
    Calls Tryz.prog 17 #[.agg #[.slice A0 n cap]] w fun e w' => e = .returned (massRes F n) ∧ Below w.heap.size w w' := by
  have CV : Hid (∀ W, Below w.heap.size w W → _) := Lib.hid fun W hW => validD_any A0 n cap F W hn (hA.below hW (Nat.le_refl _)) hs
  have hD := (Box.new w 32 #[.slice A0 n cap]).alloc (.cells #[.bool false, .string ⟨#[]⟩, .string ⟨#[]⟩] 27)
  have hR := Box.new (w.alloc (.cells #[.slice A0 n cap] 32)) 27 #[.bool false, .string ⟨#[]⟩, .string ⟨#[]⟩]
  rw [show (w.alloc (.cells #[.slice A0 n cap] 32)).heap.size = w.heap.size + 1 by simp] at hR
  have hB := ((Below.refl w.heap.size w).alloc (Nat.le_refl _) (.cells #[.slice A0 n cap] 32)).alloc (by simp) (.cells #[.bool false, .string ⟨#[]⟩, .string ⟨#[]⟩] 27)
  have hd0 := hD.cell 0
  unfold massRes
  cases hv : distOk F n with
  | false =>
    rw [hv] at CV
    clear hv hA hs
    rw [if_neg (by decide)]
    go_enter Tryz.func17, Tryz.ntmps17
    go_wp2_with (go_at_call 61; refine (CV.out _ hB).mono ?_; rintro e w1 ⟨rfl, hb1⟩; have hB1 := hB.trans (hb1.mono hB.size); have hR1 := hR.below hb1 hR.lt; obtain ⟨z0, z1, z2, f0, f1, f2⟩ := hR1.three)
    obtain ⟨m0, m1, m2⟩ := hR1.put3 (.bool false) (.string ⟨#[]⟩) (.string ⟨#[]⟩)
    refine bodyPost_ret (v := noRat) (by simp [results, Tryz.results17, go_sem, noRat, m0, m1, m2]; done) rfl ⟨rfl, ?_⟩
    exact below_put3 hB1 (by omega) _ _ _
  | true =>
    rw [hv] at CV
    obtain ⟨hn6, hok, _⟩ := distOk_parts hv
    have CM : Hid (∀ W, Below w.heap.size w W → _) := Lib.hid fun W hW => sumS_any A0 n cap F W hn6 (hA.below hW (Nat.le_refl _)) hok
    have hln := sumQ_ln (ptsOk_rats hok) (show 0 + n ≤ n by omega) (by omega)
    have hlow := total_low hok
    rw [show sumR (qOf (massF F)) 0 n = total F n from rfl] at hln
    obtain ⟨o, ho⟩ : ∃ o, o = total F n := ⟨_, rfl⟩
    rw [← ho] at CM hln hlow ⊢
    have CR : Hid (∀ (u1 u2 : Value) W, Nums 3 .i64 10000 W u1 o.2.1 → Nums 3 .i64 10000 W u2 o.2.2 → _) :=
      Lib.hid fun u1 u2 W g1 g2 => rat_of_low o.1 u1 u2 o.2.1 o.2.2 W g1 g2 hlow.pos hlow.gcd hlow.sign (by omega) (by omega)
    obtain ⟨rb, rx, ry, rc, hres⟩ := ratRes_shape o.1 o.2.1 o.2.2
    rw [if_pos rfl]
    rw [hres] at CR ⊢
    clear hv hA hs hln hlow hres ho hok
    go_enter Tryz.func17, Tryz.ntmps17
    go_wp2_with (first
      | (go_at_call 61; refine (CV.out _ hB).mono ?_; rintro e w1 ⟨rfl, hb1⟩; have hB1 := hB.trans (hb1.mono hB.size); have hR1 := hR.below hb1 hR.lt; have hd1 := (hD.below hb1 hD.lt).cell 0)
      | (go_at_call 63; refine (CM.out _ hB1).mono ?_; rintro e w2 ⟨⟨v, rfl, vn, vd, rfl, hvn, hvd⟩, hb2⟩; obtain ⟨A5, c5, rfl, _, _, _⟩ := RowF.open hvn; obtain ⟨A6, c6, rfl, _, _, _⟩ := RowF.open hvd; have hB2 := hB1.trans (hb2.mono hB1.size); have hR2 := hR1.below hb2 hR1.lt)
      | (go_at_call 62; refine (CR.out _ _ _ hvn hvd).mono ?_; rintro e w3 ⟨rfl, hb3⟩; have hB3 := hB2.trans (hb3.mono hB2.size); have hR3 := hR2.below hb3 hR2.lt; obtain ⟨z0, z1, z2, f0, f1, f2⟩ := hR3.three))
    obtain ⟨m0, m1, m2⟩ := hR3.put3 (.bool rb) (.string rx) (.string ry)
    refine bodyPost_ret (v := .tuple #[.agg #[.bool rb, .string rx, .string ry], .bool rc]) (by simp [results, Tryz.results17, go_sem, m0, m1, m2]; done) rfl ⟨rfl, ?_⟩
    exact below_put3 hB3 (by omega) _ _ _

end Go.Proofs.YtlfghhmphgidjaaGreatDoor
