/-
  The model's sum of a list of Rats.
-/
import Derived.Test.YtmmonglcbkefmaaGreatDoorRatS
import Derived.Test.YtmmonglcbkefmaaGreatDoorImplSum
import Derived.Test.YtmmonglcbkefmaaGreatDoorSumR
import Derived.Deep.RegionWith
namespace Go.Proofs.YtmmonglcbkefmaaGreatDoor
open Go.RowKit Num

/-- A Rat's texts as a fraction. -/
def qOf (F : Nat → Bool × ByteArray × ByteArray) (j : Nat) : Bool × Nat × Nat := ((F j).1, numOf (F j).2.1, numOf (F j).2.2)

/-- The first k Rats are valid. -/
def ratsOk (F : Nat → Bool × ByteArray × ByteArray) : Nat → Bool
  | 0 => true
  | k + 1 => ratsOk F k && validR (F k).1 (F k).2.1 (F k).2.2

theorem ratsOk_up {F : Nat → Bool × ByteArray × ByteArray} {k n : Nat} (h : k ≤ n) (h0 : ratsOk F k = false) : ratsOk F n = false := by
  induction n with
  | zero => obtain rfl : k = 0 := by omega
            exact h0
  | succ n ih =>
    by_cases hk : k ≤ n
    · show (ratsOk F n && _) = false
      rw [ih hk]; rfl
    · obtain rfl : k = n + 1 := by omega
      exact h0

theorem ratsOk_at {F : Nat → Bool × ByteArray × ByteArray} {n j : Nat} (h : ratsOk F n = true) (hj : j < n) : validR (F j).1 (F j).2.1 (F j).2.2 = true := by
  cases hv : validR (F j).1 (F j).2.1 (F j).2.2 with
  | true => rfl
  | false =>
    have h1 : ratsOk F (j + 1) = false := by
      show (ratsOk F j && _) = false
      rw [hv, Bool.and_false]
    rw [ratsOk_up (show j + 1 ≤ n by omega) h1] at h
    cases h

theorem qOf_low {F : Nat → Bool × ByteArray × ByteArray} {j : Nat} (h : validR (F j).1 (F j).2.1 (F j).2.2 = true) : LowO (qOf F j) := by
  obtain ⟨_, _, _, h4⟩ := validR_num h
  have hg := validR_gcd h
  obtain ⟨_, _, h3, _⟩ := validR_num h
  refine ⟨by show 0 < numOf (F j).2.2; omega, hg, fun hs => ?_⟩
  show 0 < numOf (F j).2.1
  rcases Nat.eq_zero_or_pos (numOf (F j).2.1) with e | e
  · have := h4 e
    rw [show (F j).1 = true from hs] at this
    cases this
  · exact e

def capN : Nat := 10 ^ 120
theorem capN_WB : capN ≤ WB ^ 7 := pow120
theorem capN_dec : capN ≤ 10000 ^ 30 := by
  unfold capN
  exact Nat.le_of_eq (by rw [show (10000 : Nat) = 10 ^ 4 from rfl, ← Nat.pow_mul])
theorem capN_two : 2 ≤ capN := by unfold capN; decide

theorem qOf_cap {F : Nat → Bool × ByteArray × ByteArray} {j : Nat} (h : validR (F j).1 (F j).2.1 (F j).2.2 = true) : (qOf F j).2.1 ≤ capN ∧ (qOf F j).2.2 ≤ capN := by
  obtain ⟨h1, h2, _, _⟩ := validR_num h
  exact ⟨Nat.le_of_lt (numOf_lt h1), Nat.le_of_lt (numOf_lt h2)⟩

theorem sumQ_low {F : Nat → Bool × ByteArray × ByteArray} {n a k : Nat} (h : ratsOk F n = true) (hk : a + k ≤ n) : LowO (sumR (qOf F) a k) :=
  sumR_low fun j hj => qOf_low (ratsOk_at h (by omega))

/-- The sum of at most 1000 Rats is not too long. -/
theorem sumQ_ln {F : Nat → Bool × ByteArray × ByteArray} {n a k : Nat} (h : ratsOk F n = true) (hk : a + k ≤ n) (hn : k ≤ 1000) :
    (ln WB (sumR (qOf F) a k).2.1 ≤ 20000 ∧ ln WB (sumR (qOf F) a k).2.2 ≤ 20000) ∧ ln 10000 (sumR (qOf F) a k).2.1 ≤ 70000 ∧ ln 10000 (sumR (qOf F) a k).2.2 ≤ 70000 := by
  obtain ⟨h1, h2⟩ := sumR_fit capN_two (F := qOf F) (a := a) (k := k) fun j hj => qOf_cap (ratsOk_at h (by omega))
  have e1 := ln_of_pow WB_two capN_WB h1
  have e2 := ln_of_pow WB_two capN_WB h2
  have e3 := ln_of_pow (by omega : 2 ≤ 10000) capN_dec h1
  have e4 := ln_of_pow (by omega : 2 ≤ 10000) capN_dec h2
  exact ⟨⟨by omega, by omega⟩, by omega, by omega⟩

/-- What a sum of Rats is handed back as. -/
def sumRes (F : Nat → Bool × ByteArray × ByteArray) (n : Nat) : Value :=
  if (decide (n ≤ 1000) && ratsOk F n) = true then ratRes (sumR (qOf F) 0 n).1 (sumR (qOf F) 0 n).2.1 (sumR (qOf F) 0 n).2.2 else noRat

theorem num_lt_ten {s : ByteArray} (h : isNum s = true) : ln 10000 (numOf s) ≤ 70000 := by
  have := ln_of_pow (k := 1) (by omega : 2 ≤ 10000) capN_dec (by rw [Nat.pow_one]; exact Nat.le_of_lt (numOf_lt h))
  omega

set_option maxRecDepth 100000 in
set_option maxHeartbeats 1600000 in
theorem specSum_any (A0 : Option Addr) (n cap : Nat) (F : Nat → Bool × ByteArray × ByteArray) (w : World) (hn : n ≤ 1048576) (hA : RatAt w A0 n F) (hs : ∀ j, j < n → (F j).2.1.size ≤ 9223372036854775807 ∧ (F j).2.2.size ≤ 9223372036854775807) :
    Calls Tryz.prog 33 #[.slice A0 n cap] w fun e w' => e = .returned (sumRes F n) ∧ Below w.heap.size w w' := by
  have HA := Lib.hid hA; clear hA
  have HS := Lib.hid hs; clear hs
  by_cases hk : n ≤ 1000
  · have hd : decide ((1000 : Int) < (n : Int)) = false := decide_eq_false (by omega)
    obtain ⟨r, hr⟩ : ∃ r, r = sumRes F n := ⟨_, rfl⟩
    rw [← hr]
    have Hr := Lib.hid hr; clear hr
    have C0 : Hid (∀ W, Calls Tryz.prog 84 #[.int .i64 0] W fun e w' => (∃ v, e = .returned v ∧ IsQ w' v false 0 1) ∧ Below W.heap.size W w') := Lib.hid fun W => intQ_any 0 W (by omega) (by omega)
    have hR := Box.new w 24 #[.bool false, .string ⟨#[]⟩, .string ⟨#[]⟩]
    have hB := (Below.refl w.heap.size w).alloc (Nat.le_refl _) (.cells #[.bool false, .string ⟨#[]⟩, .string ⟨#[]⟩] 24)
    go_enter Tryz.func33, Tryz.ntmps33
    go_wp2_with (go_at_call 84; refine (C0.out _).mono ?_; rintro e w1 ⟨⟨v, rfl, vn, vd, rfl, hvn, hvd⟩, hb1⟩; obtain ⟨A1, c1, rfl, _, _, _⟩ := RowF.open hvn; obtain ⟨A2, c2, rfl, _, _, _⟩ := RowF.open hvd; replace hR := hR.below hb1 hR.lt; replace hB := hB.trans (hb1.mono hB.size))
    have hQ := Box.new w1 71 #[.bool false, .slice A1 (ln 10000 0) c1, .slice A2 (ln 10000 1) c2]
    have hB1 := (Below.refl w1.heap.size w1).alloc (Nat.le_refl _) (.cells #[.bool false, .slice A1 (ln 10000 0) c1, .slice A2 (ln 10000 1) c2] 71)
    replace hR := hR.below hB1 hR.lt
    replace hvn := hvn.below hB1 (Nat.le_refl _)
    replace hvd := hvd.below hB1 (Nat.le_refl _)
    have hRQ : w.heap.size < w1.heap.size := by have := hB.size; have := hR.lt; have h3 := hb1.size; simp at h3; omega
    replace hB := hB.trans (hB1.mono hB.size)
    obtain ⟨Q, hQd⟩ : ∃ Q, Q = w1.heap.size := ⟨_, rfl⟩
    rw [← hQd] at hQ hRQ ⊢
    obtain ⟨ww, hww⟩ : ∃ ww, ww = w1.alloc (.cells #[.bool false, .slice A1 (ln 10000 0) c1, .slice A2 (ln 10000 1) c2] 71) := ⟨_, rfl⟩
    rw [← hww] at hQ hR hvn hvd hB ⊢
    clear hww hB1 hb1 hQd C0
    go_loopg [14] n (fun q iv wr => ∃ k : Nat, k + q = n ∧ iv = .int .i64 (k : Nat) ∧ ratsOk F k = true ∧ (∃ A1 l1 c1 A2 l2 c2, Box wr Q 71 #[.bool (sumR (qOf F) 0 k).1, .slice A1 l1 c1, .slice A2 l2 c2] ∧ Nums 3 .i64 10000 wr (.slice A1 l1 c1) (sumR (qOf F) 0 k).2.1 ∧ Nums 3 .i64 10000 wr (.slice A2 l2 c2) (sumR (qOf F) 0 k).2.2) ∧ Box wr w.heap.size 24 #[.bool false, .string ⟨#[]⟩, .string ⟨#[]⟩] ∧ Below w.heap.size w wr)
    case atStart => exact ⟨0, by omega, rfl, rfl, ⟨A1, _, c1, A2, _, c2, hQ, hvn, hvd⟩, hR, hB⟩
    case round =>
      obtain ⟨k, hkq, rfl, hok, ⟨A3, l3, c3, A4, l4, c4, hQr, hn3, hn4⟩, hRr, hbel⟩ := hrel
      have HOK := Lib.hid hok; clear hok
      clear hQ hR hvn hvd hB
      obtain ⟨o, ho⟩ : ∃ o, o = sumR (qOf F) 0 k := ⟨_, rfl⟩
      rw [← ho] at hQr hn3 hn4
      by_cases hk0 : k < n
      · have hAw : RatAt wr A0 n F := HA.out.below hbel (Nat.le_refl _)
        obtain ⟨b, off, rfl, hb, r0, r1, r2⟩ := hAw.at_ hk0
        obtain ⟨s1, s2⟩ := HS.out k hk0
        obtain ⟨⟨rb, rx, ry⟩, hF⟩ : ∃ t, t = F k := ⟨_, rfl⟩
        have hstep : ratsOk F (k + 1) = (ratsOk F k && validR (F k).1 (F k).2.1 (F k).2.2) := rfl
        rw [HOK.out, Bool.true_and] at hstep
        have hsum : sumR (qOf F) 0 (k + 1) = addO o.1 o.2.1 o.2.2 (F k).1 (numOf (F k).2.1) (numOf (F k).2.2) := by
          show addO _ _ _ (qOf F (0 + k)).1 _ _ = _
          rw [Nat.zero_add, ho]; rfl
        rw [← hF] at r0 r1 r2 s1 s2 hstep hsum
        simp only at r0 r1 r2 s1 s2 hstep hsum
        have CV : Hid (∀ W, _) := Lib.hid fun W => validS_any rb rx ry W s1 s2
        have hT := Box.new wr 24 #[.bool rb, .string rx, .string ry]
        replace hQr := hQr.alloc (.cells #[.bool rb, .string rx, .string ry] 24)
        replace hRr := hRr.alloc (.cells #[.bool rb, .string rx, .string ry] 24)
        have hal := (Below.refl wr.heap.size wr).alloc (Nat.le_refl _) (.cells #[.bool rb, .string rx, .string ry] 24)
        replace hn3 := hn3.below hal (Nat.le_refl _)
        replace hn4 := hn4.below hal (Nat.le_refl _)
        replace hbel := hbel.trans (hal.mono hbel.size)
        clear hb hAw hal
        cases hv : validR rb rx ry with
        | false =>
          rw [hv] at CV hstep
          have hrf := ratsOk_up (show k + 1 ≤ n by omega) hstep
          have hres : r = noRat := by rw [Hr.out]; unfold sumRes; rw [hrf, Bool.and_false]; rfl
          have Hres := Lib.hid hres
          clear hstep hv hrf hF ho hsum hn3 hn4 hQr s1 s2 hres
          go_upto_region 9 with (go_at_call 45; refine (CV.out _).mono ?_; rintro e w2 ⟨rfl, hb2⟩; replace hRr := hRr.below hb2 hRr.lt; replace hbel := hbel.trans (hb2.mono hbel.size); obtain ⟨z0, z1, z2, f0, f1, f2⟩ := hRr.three)
          go_wp2_with fail
          obtain ⟨m0, m1, m2⟩ := hRr.put3 (.bool false) (.string ⟨#[]⟩) (.string ⟨#[]⟩)
          refine bodyPost_ret (v := noRat) (by simp [results, Tryz.results33, go_sem, noRat, m0, m1, m2]; done) rfl ⟨by rw [Hres.out], ?_⟩
          exact below_put3 hbel (Nat.le_refl _) _ _ _
        | true =>
          rw [hv] at CV hstep
          obtain ⟨v1, v2, v3, v4⟩ := validR_num hv
          have hln := sumQ_ln HOK.out (show 0 + k ≤ k by omega) (by omega)
          have hlow := sumQ_low HOK.out (show 0 + k ≤ k by omega)
          rw [← ho] at hln hlow
          have hx := num_lt_ten v1
          have hy := num_lt_ten v2
          have hpos := hlow.pos
          have CQ : Hid (∀ W, _) := Lib.hid fun W => toQ_any rb rx ry W v1 v2
          have CA : Hid (∀ (u1 u2 : Value) W, Nums 3 .i64 10000 W (.slice A3 l3 c3) o.2.1 → Nums 3 .i64 10000 W (.slice A4 l4 c4) o.2.2 → Nums 3 .i64 10000 W u1 (numOf rx) → Nums 3 .i64 10000 W u2 (numOf ry) → _) :=
            Lib.hid fun u1 u2 W g1 g2 g3 g4 => addQ_as o.1 rb _ _ u1 u2 _ _ _ _ W g1 g2 g3 g4 (by omega) (by omega) (by omega) (by omega) hpos (by omega)
          rw [← hsum] at CA
          have HST := Lib.hid hstep
          have H3 := Lib.hid hn3
          have H4 := Lib.hid hn4
          clear hstep hv hF ho hsum hn3 hn4 s1 s2 v1 v2 v3 v4 hln hlow hx hy hpos
          go_upto_region 9 with (go_at_call 45; refine (CV.out _).mono ?_; rintro e w2 ⟨rfl, hb2⟩; replace hRr := hRr.below hb2 hRr.lt; replace hQr := hQr.below hb2 hQr.lt; replace hT := hT.below hb2 hT.lt; replace hbel := hbel.trans (hb2.mono hbel.size); replace H3 := Lib.hid (H3.out.below hb2 (Nat.le_refl _)); replace H4 := Lib.hid (H4.out.below hb2 (Nat.le_refl _)); obtain ⟨z0, z1, z2, _, _, _⟩ := hQr.three; obtain ⟨t0, t1, t2, _, _, _⟩ := hT.three)
          go_region_with (first
            | (go_at_call 48; refine (CQ.out _).mono ?_; rintro e w3 ⟨⟨v, rfl, vn, vd, rfl, hvn, hvd⟩, hb3⟩; obtain ⟨A5, c5, rfl, _, _, _⟩ := RowF.open hvn; obtain ⟨A6, c6, rfl, _, _, _⟩ := RowF.open hvd; have hQ3 := box_drew hQr hb3; obtain ⟨y0, y1, y2, _, _, _⟩ := hQ3.three)
            | (go_at_call 47; refine (CA.out _ _ _ ((H3.out.below (Below.refl _ w2).drew (Nat.le_refl _)).below hb3 (Nat.le_refl _)) ((H4.out.below (Below.refl _ w2).drew (Nat.le_refl _)).below hb3 (Nat.le_refl _)) hvn hvd).mono ?_; rintro e w4 ⟨⟨v, rfl, vN, vD, rfl, hvN, hvD⟩, hb4⟩; obtain ⟨A7, c7, rfl, _, _, _⟩ := RowF.open hvN; obtain ⟨A8, c8, rfl, _, _, _⟩ := RowF.open hvD; have hQ4 := hQ3.below hb4 hQ3.lt; obtain ⟨x0, x1, x2, f0, f1, f2⟩ := hQ4.three))
          all_goals go_wp2_with fail
          all_goals have h23 := (Below.refl w2.heap.size w2).drew.trans hb3
          all_goals have h24 := h23.trans (hb4.mono h23.size)
          all_goals have hR4 := hRr.below h24 hRr.lt
          all_goals go_roundg (gk - 1)
          all_goals first
          | omega
          | exact ⟨k + 1, by omega, by go_num, HST.out, ⟨A7, _, c7, A8, _, c8, ((hQ4.set 0 _).set 1 _).set 2 _, Nums.put3 hvN hQ4 (by decide) _ _ _, Nums.put3 hvD hQ4 (by decide) _ _ _⟩, ((hR4.other (by omega) 0 _).other (by omega) 1 _).other (by omega) 2 _, below_put3 (hbel.trans (h24.mono hbel.size)) (by omega) _ _ _⟩
      · obtain rfl : k = n := by omega
        have hln := sumQ_ln HOK.out (show 0 + k ≤ k by omega) hk
        have hlow := sumQ_low HOK.out (show 0 + k ≤ k by omega)
        rw [← ho] at hln hlow
        have hr : r = ratRes o.1 o.2.1 o.2.2 := by
          rw [Hr.out]; unfold sumRes
          rw [HOK.out, decide_eq_true hk, ho]; rfl
        have CR : Hid (∀ W, Nums 3 .i64 10000 W (.slice A3 l3 c3) o.2.1 → Nums 3 .i64 10000 W (.slice A4 l4 c4) o.2.2 → _) :=
          Lib.hid fun W g1 g2 => rat_of_low o.1 _ _ o.2.1 o.2.2 W g1 g2 hlow.pos hlow.gcd hlow.sign (by omega) (by omega)
        obtain ⟨rb, rx, ry, rc, hres⟩ := ratRes_shape o.1 o.2.1 o.2.2
        rw [hres] at CR hr
        have Hres := Lib.hid hr
        clear hln hlow hr hres ho
        obtain ⟨z0, z1, z2, _, _, _⟩ := hQr.three
        go_wp2_with (go_at_call 46; refine (CR.out _ hn3 hn4).mono ?_; rintro e w2 ⟨rfl, hb2⟩; replace hRr := hRr.below hb2 hRr.lt; replace hbel := hbel.trans (hb2.mono hbel.size); obtain ⟨y0, y1, y2, f0, f1, f2⟩ := hRr.three)
        obtain ⟨m0, m1, m2⟩ := hRr.put3 (.bool rb) (.string rx) (.string ry)
        refine bodyPost_ret (v := .tuple #[.agg #[.bool rb, .string rx, .string ry], .bool rc]) (by simp [results, Tryz.results33, go_sem, m0, m1, m2]; done) rfl ⟨by rw [Hres.out], ?_⟩
        exact below_put3 hbel (Nat.le_refl _) _ _ _
  · have hd : decide ((1000 : Int) < (n : Int)) = true := decide_eq_true (by omega)
    have hres : sumRes F n = noRat := by unfold sumRes; rw [decide_eq_false hk, Bool.false_and]; rfl
    rw [hres]
    go_enter Tryz.func33, Tryz.ntmps33
    go_wp2_with fail
    exact bodyPost_ret (v := noRat) (by simp [results, Tryz.results33, go_sem, noRat]) rfl ⟨rfl, (Below.refl _ w).alloc (Nat.le_refl _) _⟩

end Go.Proofs.YtmmonglcbkefmaaGreatDoor
