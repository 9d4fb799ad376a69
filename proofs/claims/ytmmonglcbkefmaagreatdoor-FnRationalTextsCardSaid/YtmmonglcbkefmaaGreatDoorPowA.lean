/-
  Several texts in one: PowW, PowS, PowI.
-/
import Derived.Test.YtmmonglcbkefmaaGreatDoorImplSum
import Derived.Deep.LoopGhost
import Derived.Test.YtmmonglcbkefmaaGreatDoorSpecOps
import Derived.Test.YtmmonglcbkefmaaGreatDoorFracLaw
import Derived.Test.YtmmonglcbkefmaaGreatDoorEqRat
/-
  Powers: how long their numerals are; the program's boundedPower.
-/
namespace Go.Proofs.YtmmonglcbkefmaaGreatDoor
open Go.RowKit Num

theorem decL_length (n : Nat) (h : n ≠ 0) : (decL n).length = ln 10 n := by
  unfold decL
  rw [if_neg h, List.length_map, List.length_reverse, length_digs]

theorem decL_mono (m n : Nat) (h : m ≤ n) : (decL m).length ≤ (decL n).length := by
  by_cases hm : m = 0
  · have h1 : (decL m).length = 1 := by rw [hm]; rfl
    have h2 := decL_pos n
    omega
  · rw [decL_length m hm, decL_length n (by omega)]
    exact ln_mono 10 _ _ (by omega) h

/-- A power is at least each power of lesser exponent, but for 0. -/
theorem pow_up (x k n : Nat) (h : k ≤ n) (hx : 0 < x) : x ^ k ≤ x ^ n := Nat.pow_le_pow_right hx h

theorem ln_pow_up (x k n : Nat) (h : k ≤ n) (h7 : 7 < ln WB (x ^ k)) : 7 < ln WB (x ^ n) := by
  have hx : 0 < x := by
    rcases Nat.eq_zero_or_pos x with e | e
    · rw [e] at h7
      have : ln WB (0 ^ k) ≤ 7 := by
        cases k with
        | zero => rw [Nat.pow_zero, ln_one]; omega
        | succ k => rw [Nat.pow_succ, Nat.mul_zero, ln_zero]; omega
      omega
    · exact e
  have := ln_mono WB _ _ WB_two (pow_up x k n h hx)
  omega

theorem dec_pow_up (x k n : Nat) (h : k ≤ n) (hl : 120 < (decL (x ^ k)).length) : 120 < (decL (x ^ n)).length := by
  have hx : 0 < x := by
    rcases Nat.eq_zero_or_pos x with e | e
    · rw [e] at hl
      have : (decL (0 ^ k)).length ≤ 5 := decL_len _ (by
        cases k with
        | zero => rw [Nat.pow_zero]; omega
        | succ k => rw [Nat.pow_succ, Nat.mul_zero]; omega)
      omega
    · exact e
  have := decL_mono _ _ (pow_up x k n h hx)
  omega

set_option maxRecDepth 100000 in
set_option maxHeartbeats 1600000 in
/-- The program's boundedPower. -/
theorem powW_any (vb : Value) (x n : Nat) (w : World) (hb : Nums 54 .u64 WB w vb x) (hn : n ≤ 200) (hx : ln WB x ≤ 7) :
    Calls Tryz.prog 65 #[vb, .int .i64 (n : Nat)] w fun e w' => (∃ v, e = .returned (.tuple #[v, .bool (decide (ln WB (x ^ n) ≤ 7))]) ∧ (∃ q m c, v = .slice q m c) ∧ (ln WB (x ^ n) ≤ 7 → Nums 54 .u64 WB w' v (x ^ n))) ∧ Below w.heap.size w w' := by
  obtain ⟨Ab, cb, rfl, _, _, _⟩ := RowF.open hb
  have Hb := Lib.hid hb; clear hb
  go_enter Tryz.func65, Tryz.ntmps65
  go_wp2_with fail
  go_loopg [6, 9] n (fun q pv iv wr => ∃ k : Nat, k + q = n ∧ iv = .int .i64 (k : Nat) ∧ Nums 54 .u64 WB wr pv (x ^ k) ∧ ln WB (x ^ k) ≤ 7 ∧ Below w.heap.size w wr)
  case atStart =>
    refine ⟨0, by omega, rfl, ?_, ?_, ?_⟩
    · rw [Nat.pow_zero]
      exact nums_new (Box.new _ _ _)
    · rw [Nat.pow_zero, ln_one]; omega
    · exact (Below.refl _ w).alloc (Nat.le_refl _) _
  case round =>
    obtain ⟨k, hk, rfl, hp, hlp, hbel⟩ := hrel
    obtain ⟨Ap, cp, rfl, _, _, _⟩ := RowF.open hp
    have Hp := Lib.hid hp; clear hp
    by_cases h0 : k < n
    · obtain ⟨P, hP⟩ : ∃ P, P = x ^ (k + 1) := ⟨_, rfl⟩
      have hP' : x ^ k * x = P := by rw [hP, Nat.pow_succ]
      have HP' := Lib.hid hP'; clear hP'
      have HP := Lib.hid hP; clear hP
      by_cases h7 : ln WB P ≤ 7
      · go_wp2_with (go_at_call 76; refine (mulNats_any _ _ (x ^ k) x _ Hp.out (Hb.out.below hbel (Nat.le_refl _)) (by omega) (by omega)).mono ?_; rintro e w3 ⟨⟨v3, rfl, hv3⟩, hb3⟩; rw [HP'.out] at hv3; obtain ⟨A3, c3, rfl, _, _, _⟩ := RowF.open hv3; have HV := Lib.hid hv3; clear hv3)
        go_roundg (gk - 1)
        case rel => exact ⟨k + 1, by omega, by go_num, by rw [← HP.out]; exact HV.out, by rw [← HP.out]; exact h7, hbel.trans (hb3.mono hbel.size)⟩
        case measure => omega
      · have hbig : ¬ ln WB (x ^ n) ≤ 7 := by
          have := ln_pow_up x (k + 1) n (by omega) (by rw [← HP.out]; omega)
          omega
        have Hbig := Lib.hid hbig; clear hbig
        go_wp2_with (go_at_call 76; refine (mulNats_any _ _ (x ^ k) x _ Hp.out (Hb.out.below hbel (Nat.le_refl _)) (by omega) (by omega)).mono ?_; rintro e w3 ⟨⟨v3, rfl, hv3⟩, hb3⟩; rw [HP'.out] at hv3; obtain ⟨A3, c3, rfl, _, _, _⟩ := RowF.open hv3; clear hv3)
        go_ret2
        exact ⟨⟨_, by rw [decide_eq_false Hbig.out]; rfl, ⟨_, _, _, rfl⟩, fun h => absurd h Hbig.out⟩, hbel.trans (hb3.mono hbel.size)⟩
    · obtain rfl : k = n := by omega
      go_wp2_with fail
      go_ret2
      exact ⟨⟨_, by rw [decide_eq_true hlp]; rfl, ⟨_, _, _, rfl⟩, fun _ => Hp.out⟩, hbel⟩

end Go.Proofs.YtmmonglcbkefmaaGreatDoor
/-
  The model's PowRat.
-/
namespace Go.Proofs.YtmmonglcbkefmaaGreatDoor
open Go.RowKit Num

/-- What PowRat answers. -/
def powRes (b : Bool) (x y : ByteArray) (n : Int) : Value :=
  if (validR b x y && decide (0 ≤ n ∧ n ≤ 200)) = true then ratRes (b && decide (n.toNat % 2 = 1)) (numOf x ^ n.toNat) (numOf y ^ n.toNat) else noRat

theorem powRes_shape (b : Bool) (x y : ByteArray) (n : Int) : ∃ rb rx ry rc, powRes b x y n = .tuple #[.agg #[.bool rb, .string rx, .string ry], .bool rc] := by
  unfold powRes
  split
  · exact ratRes_shape _ _ _
  · exact ⟨_, _, _, _, rfl⟩

theorem dec_short (m : Nat) (h : (decL m).length ≤ 120) : ln 10000 m ≤ 120 := by
  by_cases h0 : m = 0
  · rw [h0, ln_zero]; omega
  · rw [decL_length m h0] at h
    have h1 := lt_pow_ln 10 m (by omega)
    have h2 : m < 10 ^ 120 := Nat.lt_of_lt_of_le h1 (Nat.pow_le_pow_right (by omega) h)
    exact ln_le_of_lt 10000 m 120 (by omega) (Nat.lt_of_lt_of_le h2 (Nat.pow_le_pow_left (by omega) 120))

theorem text_size (v : Value) (x : Nat) (w : World) (hv : Nums 3 .i64 10000 w v x) (hlx : ln 10000 x ≤ 1099511627776) :
    Calls Tryz.prog 69 #[v] w fun e w' => (∃ s : ByteArray, e = .returned (.string s) ∧ s.size = (decL x).length) ∧ Below w.heap.size w w' := by
  refine (text_any v x w hv hlx).mono ?_
  rintro e w' ⟨rfl, hb⟩
  exact ⟨⟨_, rfl, rfl⟩, hb⟩

theorem unfit {sg : Bool} {N D : Nat} (h : 120 < (decL N).length ∨ 120 < (decL D).length) : ratRes sg N D = noRat := by
  unfold ratRes fits
  rw [if_neg]
  simp only [Bool.and_eq_true, decide_eq_true_eq]
  omega

theorem gcd_pow {m n : Nat} (h : Nat.gcd m n = 1) (k : Nat) : Nat.gcd (m ^ k) (n ^ k) = 1 := Nat.Coprime.pow k k h

set_option maxRecDepth 100000 in
set_option maxHeartbeats 3200000 in
theorem specPow_yes (b : Bool) (x y : ByteArray) (n : Nat) (w : World) (hn : n ≤ 200) (hx : x.size ≤ 9223372036854775807) (hy : y.size ≤ 9223372036854775807) (hv : validR b x y = true) :
    Calls Tryz.prog 24 #[.agg #[.bool b, .string x, .string y], .int .i64 (n : Nat)] w fun e w' => e = .returned (ratRes (b && decide (n % 2 = 1)) (numOf x ^ n) (numOf y ^ n)) ∧ Below w.heap.size w w' := by
  have C1 : Hid (∀ W, _) := Lib.hid fun W => validS_any b x y W hx hy
  rw [hv] at C1
  obtain ⟨m1, m2, m3, m4⟩ := validR_num hv
  have k1 := validR_gcd hv
  have CQ : Hid (∀ W, _) := Lib.hid fun W => toQ_any b x y W m1 m2
  have lX := num_lt_room m1
  have lY := num_lt_room m2
  obtain ⟨X, hX⟩ : ∃ X, X = numOf x := ⟨_, rfl⟩
  obtain ⟨Y, hY⟩ : ∃ Y, Y = numOf y := ⟨_, rfl⟩
  obtain ⟨sg, hsg⟩ : ∃ sg, sg = (b && decide (n % 2 = 1)) := ⟨_, rfl⟩
  rw [← hX] at m4 k1 CQ lX ⊢
  rw [← hY] at m3 k1 CQ lY ⊢
  rw [← hsg]
  have CI : Hid (∀ W, _) := Lib.hid fun W => in_any (n : Nat) 0 200 W
  rw [decide_eq_true (by omega : (0 : Int) ≤ (n : Nat) ∧ ((n : Nat) : Int) ≤ 200)] at CI
  have hno : ∀ k, k ≤ n → (120 < (decL (X ^ k)).length ∨ 120 < (decL (Y ^ k)).length) → ratRes sg (X ^ n) (Y ^ n) = noRat := by
    intro k hk h
    exact unfit (h.imp (dec_pow_up X k n hk) (dec_pow_up Y k n hk))
  have CR : Hid (∀ (vn vd : Value) (W : World), Nums 3 .i64 10000 W vn (X ^ n) → Nums 3 .i64 10000 W vd (Y ^ n) → ln 10000 (X ^ n) ≤ 549755813888 → ln 10000 (Y ^ n) ≤ 549755813888 → _) := Lib.hid fun vn vd W g1 g2 g3 g4 =>
    rat_of_low sg vn vd (X ^ n) (Y ^ n) W g1 g2 (Nat.pow_pos (by omega)) (gcd_pow k1 n) (fun h => by
      rw [hsg] at h
      have hb : b = true := by cases b <;> simp_all
      exact Nat.pow_pos (by rcases Nat.eq_zero_or_pos X with e | e; (have := m4 e; rw [hb] at this; cases this); exact e)) g3 g4
  obtain ⟨rb, rx, ry, rc, hres⟩ := ratRes_shape sg (X ^ n) (Y ^ n)
  rw [hres] at CR hno ⊢
  have HNO := Lib.hid hno
  have HSG := Lib.hid hsg
  clear hno hres hX hY m1 m2 m3 m4 k1 hv hx hy hsg
  have hA := (Box.new w 24 #[.bool b, .string x, .string y]).alloc (.cells #[.bool false, .string ⟨#[]⟩, .string ⟨#[]⟩] 24)
  have hR := Box.new (w.alloc (.cells #[.bool b, .string x, .string y] 24)) 24 #[.bool false, .string ⟨#[]⟩, .string ⟨#[]⟩]
  rw [show (w.alloc (.cells #[.bool b, .string x, .string y] 24)).heap.size = w.heap.size + 1 by simp] at hR
  have hB := ((Below.refl w.heap.size w).alloc (Nat.le_refl _) (.cells #[.bool b, .string x, .string y] 24)).alloc (by simp) (.cells #[.bool false, .string ⟨#[]⟩, .string ⟨#[]⟩] 24)
  obtain ⟨r0, r1, r2, _, _, _⟩ := hA.three
  go_enter Tryz.func24, Tryz.ntmps24
  go_upto_region 5 with (first
    | (go_at_call 45; refine (C1.out _).mono ?_; rintro e w1 ⟨rfl, hb⟩; replace hB := hB.trans (hb.mono hB.size); replace hA := hA.below hb hA.lt; replace hR := hR.below hb hR.lt; clear hb r0 r1 r2; obtain ⟨r0, r1, r2, _, _, _⟩ := hA.three)
    | (go_at_call 66; refine (CI.out _).mono ?_; rintro e w2 ⟨rfl, rfl⟩)
    | (go_at_call 48; refine (CQ.out _).mono ?_; rintro e w3 ⟨⟨v, rfl, vn, vd, rfl, hvn, hvd⟩, hb⟩; obtain ⟨An, cn, rfl, _, _, _⟩ := RowF.open hvn; obtain ⟨Ad, cd, rfl, _, _, _⟩ := RowF.open hvd; replace hB := (hB.trans (hb.mono hB.size)).alloc (hB.trans (hb.mono hB.size)).size (.cells #[.bool b, .slice An (ln 10000 X) cn, .slice Ad (ln 10000 Y) cd] 71); replace hA := (hA.below hb hA.lt).alloc (.cells #[.bool b, .slice An (ln 10000 X) cn, .slice Ad (ln 10000 Y) cd] 71); replace hR := (hR.below hb hR.lt).alloc (.cells #[.bool b, .slice An (ln 10000 X) cn, .slice Ad (ln 10000 Y) cd] 71); have hK := Box.new w3 71 #[.bool b, .slice An (ln 10000 X) cn, .slice Ad (ln 10000 Y) cd]; have Hn := Lib.hid (hvn.below ((Below.refl w3.heap.size w3).alloc (Nat.le_refl _) (.cells #[.bool b, .slice An (ln 10000 X) cn, .slice Ad (ln 10000 Y) cd] 71)) (Nat.le_refl _)); have Hd := Lib.hid (hvd.below ((Below.refl w3.heap.size w3).alloc (Nat.le_refl _) (.cells #[.bool b, .slice An (ln 10000 X) cn, .slice Ad (ln 10000 Y) cd] 71)) (Nat.le_refl _)); clear hb r0 r1 r2 hvn hvd)
    | (go_at_call 67; refine (one_any _).mono ?_; rintro e w4 ⟨⟨v1, rfl, hv1⟩, hb⟩; replace hB := hB.trans (hb.mono hB.size); replace hA := hA.below hb hA.lt; replace hR := hR.below hb hR.lt; replace hK := hK.below hb hK.lt; replace Hn := Lib.hid (Hn.out.below hb (Nat.le_refl _)); replace Hd := Lib.hid (Hd.out.below hb (Nat.le_refl _)); (try replace H1 := Lib.hid (H1.out.below hb (Nat.le_refl _))); (first | (have H2 := H1; skip) | skip); have H1 := Lib.hid hv1; clear hb hv1))
  go_wp2_with fail
  have hs4 := hB.size
  have hRlt := hR.lt
  have hAlt := hA.lt
  have hKlt := hK.lt
  go_loopg [7, 8, 9] n (fun q nv dv iv wr => ∃ k : Nat, k + q = n ∧ iv = .int .i64 (k : Nat) ∧ Nums 3 .i64 10000 wr nv (X ^ k) ∧ Nums 3 .i64 10000 wr dv (Y ^ k) ∧ (decL (X ^ k)).length ≤ 120 ∧ (decL (Y ^ k)).length ≤ 120 ∧ Below w4.heap.size w4 wr)
  case atStart =>
    refine ⟨0, by omega, rfl, ?_, ?_, ?_, ?_, Below.refl _ _⟩
    · rw [Nat.pow_zero]; exact H2.out
    · rw [Nat.pow_zero]; exact H1.out
    · rw [Nat.pow_zero]; decide
    · rw [Nat.pow_zero]; decide
  case round =>
    obtain ⟨k, hk, rfl, hp, hq, hlp, hlq, hbel⟩ := hrel
    obtain ⟨P0, hP0⟩ : ∃ P0, P0 = X ^ k := ⟨_, rfl⟩
    obtain ⟨Q0, hQ0⟩ : ∃ Q0, Q0 = Y ^ k := ⟨_, rfl⟩
    rw [← hP0] at hp hlp
    rw [← hQ0] at hq hlq
    obtain ⟨Ap, cp, rfl, _, _, _⟩ := RowF.open hp
    obtain ⟨Aq, cq, rfl, _, _, _⟩ := RowF.open hq
    have Hp := Lib.hid hp; clear hp
    have Hq := Lib.hid hq; clear hq
    have lP := dec_short _ hlp
    have lQ := dec_short _ hlq
    have hKr := hK.below hbel hKlt
    have hRr := hR.below hbel hRlt
    have hAr := hA.below hbel hAlt
    obtain ⟨t0, t1, t2, _, _, _⟩ := hKr.three
    by_cases h0 : k < n
    · obtain ⟨P, hP⟩ : ∃ P, P = X ^ (k + 1) := ⟨_, rfl⟩
      obtain ⟨Q, hQ⟩ : ∃ Q, Q = Y ^ (k + 1) := ⟨_, rfl⟩
      have HP' := Lib.hid (show P0 * X = P by rw [hP, Nat.pow_succ, hP0])
      have HQ' := Lib.hid (show Q0 * Y = Q by rw [hQ, Nat.pow_succ, hQ0])
      have hno' : (120 < (decL P).length ∨ 120 < (decL Q).length) → _ := fun h => HNO.out (k + 1) (by omega) (by rw [← hP, ← hQ]; exact h)
      have lP' : ln 10000 P ≤ 274877906944 := by rw [← HP'.out]; exact Nat.le_trans (ln_mul 10000 _ _ (by omega)) (by omega)
      have lQ' : ln 10000 Q ≤ 274877906944 := by rw [← HQ'.out]; exact Nat.le_trans (ln_mul 10000 _ _ (by omega)) (by omega)
      have HP := Lib.hid hP
      have HQ := Lib.hid hQ
      clear hP hQ hP0 hQ0
      by_cases hc1 : 120 < (decL P).length
      · have Hno := Lib.hid (hno' (.inl hc1))
        clear hno'
        go_wp2_with (first
          | (go_at_call_of 68 (Value.slice Ap (ln 10000 P0) cp); refine (mulNat_any _ _ P0 X _ Hp.out (Hn.out.below hbel (Nat.le_refl _)) (by omega) (by omega)).mono ?_; rintro e w5 ⟨⟨v5, rfl, hv5⟩, hb5⟩; rw [HP'.out] at hv5; obtain ⟨A5, c5, rfl, _, _, _⟩ := RowF.open hv5; have HV5 := Lib.hid hv5; have b5 := hbel.trans (hb5.mono hbel.size); replace hKr := hK.below b5 hKlt; clear t0 t1 t2 hv5; obtain ⟨t0, t1, t2, _, _, _⟩ := hKr.three)
          | (go_at_call_of 68 (Value.slice Aq (ln 10000 Q0) cq); refine (mulNat_any _ _ Q0 Y _ (Hq.out.below hb5 (Nat.le_refl _)) (Hd.out.below b5 (Nat.le_refl _)) (by omega) (by omega)).mono ?_; rintro e w6 ⟨⟨v6, rfl, hv6⟩, hb6⟩; rw [HQ'.out] at hv6; obtain ⟨A6, c6, rfl, _, _, _⟩ := RowF.open hv6; have HV6 := Lib.hid hv6; have b6 := b5.trans (hb6.mono b5.size); clear hv6 t0 t1 t2)
          | (go_at_call_of 69 (Value.slice A5 (ln 10000 P) c5); refine (text_size _ P _ (HV5.out.below hb6 (Nat.le_refl _)) (by omega)).mono ?_; rintro e w7 ⟨⟨s7, rfl, hs7⟩, hb7⟩; have b7 := b6.trans (hb7.mono b6.size); have hg7 : 120 < s7.size := (by omega); have hd7 : decide ((120 : Int) < (s7.size : Int)) = true := (by rw [decide_eq_true_eq]; omega); clear hs7; replace hRr := hR.below b7 hRlt; obtain ⟨z0, z1, z2, f0, f1, f2⟩ := hRr.three))
        obtain ⟨m0, m1, m2⟩ := hRr.put3 (.bool false) (.string ⟨#[]⟩) (.string ⟨#[]⟩)
        refine bodyPost_ret (v := noRat) (by simp [results, Tryz.results24, go_sem, noRat, m0, m1, m2]; done) rfl ?_
        exact ⟨by rw [Hno.out], below_put3 (hB.trans (b7.mono hs4)) (by omega) _ _ _⟩
      · by_cases hc2 : 120 < (decL Q).length
        · have Hno := Lib.hid (hno' (.inr hc2))
          clear hno'
          go_wp2_with (first
            | (go_at_call_of 68 (Value.slice Ap (ln 10000 P0) cp); refine (mulNat_any _ _ P0 X _ Hp.out (Hn.out.below hbel (Nat.le_refl _)) (by omega) (by omega)).mono ?_; rintro e w5 ⟨⟨v5, rfl, hv5⟩, hb5⟩; rw [HP'.out] at hv5; obtain ⟨A5, c5, rfl, _, _, _⟩ := RowF.open hv5; have HV5 := Lib.hid hv5; have b5 := hbel.trans (hb5.mono hbel.size); replace hKr := hK.below b5 hKlt; clear t0 t1 t2 hv5; obtain ⟨t0, t1, t2, _, _, _⟩ := hKr.three)
            | (go_at_call_of 68 (Value.slice Aq (ln 10000 Q0) cq); refine (mulNat_any _ _ Q0 Y _ (Hq.out.below hb5 (Nat.le_refl _)) (Hd.out.below b5 (Nat.le_refl _)) (by omega) (by omega)).mono ?_; rintro e w6 ⟨⟨v6, rfl, hv6⟩, hb6⟩; rw [HQ'.out] at hv6; obtain ⟨A6, c6, rfl, _, _, _⟩ := RowF.open hv6; have HV6 := Lib.hid hv6; have b6 := b5.trans (hb6.mono b5.size); clear hv6 t0 t1 t2)
            | (go_at_call_of 69 (Value.slice A5 (ln 10000 P) c5); refine (text_size _ P _ (HV5.out.below hb6 (Nat.le_refl _)) (by omega)).mono ?_; rintro e w7 ⟨⟨s7, rfl, hs7⟩, hb7⟩; have b7 := b6.trans (hb7.mono b6.size); have hg7 : s7.size ≤ 120 := (by omega); have hd7 : decide ((120 : Int) < (s7.size : Int)) = false := (by rw [decide_eq_false_iff_not]; omega); clear hs7)
            | (go_at_call_of 69 (Value.slice A6 (ln 10000 Q) c6); refine (text_size _ Q _ (HV6.out.below hb7 (Nat.le_refl _)) (by omega)).mono ?_; rintro e w8 ⟨⟨s8, rfl, hs8⟩, hb8⟩; have b8 := b7.trans (hb8.mono b7.size); have hg8 : 120 < s8.size := (by omega); have hd8 : decide ((120 : Int) < (s8.size : Int)) = true := (by rw [decide_eq_true_eq]; omega); clear hs8; replace hRr := hR.below b8 hRlt; obtain ⟨z0, z1, z2, f0, f1, f2⟩ := hRr.three))
          obtain ⟨m0, m1, m2⟩ := hRr.put3 (.bool false) (.string ⟨#[]⟩) (.string ⟨#[]⟩)
          refine bodyPost_ret (v := noRat) (by simp [results, Tryz.results24, go_sem, noRat, m0, m1, m2]; done) rfl ?_
          exact ⟨by rw [Hno.out], below_put3 (hB.trans (b8.mono hs4)) (by omega) _ _ _⟩
        · clear hno'
          go_wp2_with (first
            | (go_at_call_of 68 (Value.slice Ap (ln 10000 P0) cp); refine (mulNat_any _ _ P0 X _ Hp.out (Hn.out.below hbel (Nat.le_refl _)) (by omega) (by omega)).mono ?_; rintro e w5 ⟨⟨v5, rfl, hv5⟩, hb5⟩; rw [HP'.out] at hv5; obtain ⟨A5, c5, rfl, _, _, _⟩ := RowF.open hv5; have HV5 := Lib.hid hv5; have b5 := hbel.trans (hb5.mono hbel.size); replace hKr := hK.below b5 hKlt; clear t0 t1 t2 hv5; obtain ⟨t0, t1, t2, _, _, _⟩ := hKr.three)
            | (go_at_call_of 68 (Value.slice Aq (ln 10000 Q0) cq); refine (mulNat_any _ _ Q0 Y _ (Hq.out.below hb5 (Nat.le_refl _)) (Hd.out.below b5 (Nat.le_refl _)) (by omega) (by omega)).mono ?_; rintro e w6 ⟨⟨v6, rfl, hv6⟩, hb6⟩; rw [HQ'.out] at hv6; obtain ⟨A6, c6, rfl, _, _, _⟩ := RowF.open hv6; have HV6 := Lib.hid hv6; have b6 := b5.trans (hb6.mono b5.size); clear hv6 t0 t1 t2)
            | (go_at_call_of 69 (Value.slice A5 (ln 10000 P) c5); refine (text_size _ P _ (HV5.out.below hb6 (Nat.le_refl _)) (by omega)).mono ?_; rintro e w7 ⟨⟨s7, rfl, hs7⟩, hb7⟩; have b7 := b6.trans (hb7.mono b6.size); have hg7 : s7.size ≤ 120 := (by omega); have hd7 : decide ((120 : Int) < (s7.size : Int)) = false := (by rw [decide_eq_false_iff_not]; omega); clear hs7)
            | (go_at_call_of 69 (Value.slice A6 (ln 10000 Q) c6); refine (text_size _ Q _ (HV6.out.below hb7 (Nat.le_refl _)) (by omega)).mono ?_; rintro e w8 ⟨⟨s8, rfl, hs8⟩, hb8⟩; have b8 := b7.trans (hb8.mono b7.size); have hg8 : s8.size ≤ 120 := (by omega); have hd8 : decide ((120 : Int) < (s8.size : Int)) = false := (by rw [decide_eq_false_iff_not]; omega); clear hs8))
          go_roundg (gk - 1)
          case rel => exact ⟨k + 1, by omega, by go_num, by rw [← HP.out]; exact HV5.out.below (hb6.trans ((hb7.trans (hb8.mono hb7.size)).mono hb6.size)) (Nat.le_refl _), by rw [← HQ.out]; exact HV6.out.below (hb7.trans (hb8.mono hb7.size)) (Nat.le_refl _), by rw [← HP.out]; omega, by rw [← HQ.out]; omega, b8⟩
          case measure => omega
    · obtain rfl : k = n := by omega
      rw [← hP0, ← hQ0] at CR
      clear hP0 hQ0
      obtain ⟨r0, r1, r2, _, _, _⟩ := hAr.three
      have hs5 := hbel.size
      cases b with
      | false =>
        obtain rfl : false = sg := by rw [HSG.out]; rfl
        clear hAr hK hKr C1 CQ CI HNO HSG
        go_wp2_with (go_at_call 46; refine (CR.out _ _ _ Hp.out Hq.out (by omega) (by omega)).mono ?_; rintro e w9 ⟨rfl, hb9⟩; have hRe := hRr.below hb9 hRr.lt; obtain ⟨z0, z1, z2, f0, f1, f2⟩ := hRe.three)
        obtain ⟨m0, m1, m2⟩ := hRe.put3 (.bool rb) (.string rx) (.string ry)
        refine bodyPost_ret (v := .tuple #[.agg #[.bool rb, .string rx, .string ry], .bool rc]) (by simp [results, Tryz.results24, go_sem, m0, m1, m2]; done) rfl ?_
        exact ⟨rfl, below_put3 (hB.trans ((hbel.trans (hb9.mono hbel.size)).mono hs4)) (by omega) _ _ _⟩
      | true =>
        obtain rfl : ((k : Int) % 2 == 1) = sg := by
          rw [HSG.out, Bool.true_and, Bool.eq_iff_iff, beq_iff_eq, decide_eq_true_eq]
          omega
        clear hAr hK hKr C1 CQ CI HNO HSG
        go_wp2_with (go_at_call 46; refine (CR.out _ _ _ Hp.out Hq.out (by omega) (by omega)).mono ?_; rintro e w9 ⟨rfl, hb9⟩; have hRe := hRr.below hb9 hRr.lt; obtain ⟨z0, z1, z2, f0, f1, f2⟩ := hRe.three)
        obtain ⟨m0, m1, m2⟩ := hRe.put3 (.bool rb) (.string rx) (.string ry)
        refine bodyPost_ret (v := .tuple #[.agg #[.bool rb, .string rx, .string ry], .bool rc]) (by simp [results, Tryz.results24, go_sem, m0, m1, m2]; done) rfl ?_
        exact ⟨rfl, below_put3 (hB.trans ((hbel.trans (hb9.mono hbel.size)).mono hs4)) (by omega) _ _ _⟩

end Go.Proofs.YtmmonglcbkefmaaGreatDoor
/-
  The program's PowRat, and the law.
-/
namespace Go.Proofs.YtmmonglcbkefmaaGreatDoor
open Go.RowKit Num

set_option maxRecDepth 100000 in
set_option maxHeartbeats 1600000 in
theorem specPow_no (b : Bool) (x y : ByteArray) (n : Int) (w : World) (hx : x.size ≤ 9223372036854775807) (hy : y.size ≤ 9223372036854775807) (h : validR b x y = false ∨ ¬ (0 ≤ n ∧ n ≤ 200)) :
    Calls Tryz.prog 24 #[.agg #[.bool b, .string x, .string y], .int .i64 n] w fun e w' => e = .returned noRat ∧ Below w.heap.size w w' := by
  have C1 : Hid (∀ W, _) := Lib.hid fun W => validS_any b x y W hx hy
  have CI : Hid (∀ W, _) := Lib.hid fun W => in_any n 0 200 W
  have hA := (Box.new w 24 #[.bool b, .string x, .string y]).alloc (.cells #[.bool false, .string ⟨#[]⟩, .string ⟨#[]⟩] 24)
  have hR := Box.new (w.alloc (.cells #[.bool b, .string x, .string y] 24)) 24 #[.bool false, .string ⟨#[]⟩, .string ⟨#[]⟩]
  rw [show (w.alloc (.cells #[.bool b, .string x, .string y] 24)).heap.size = w.heap.size + 1 by simp] at hR
  have hB := ((Below.refl w.heap.size w).alloc (Nat.le_refl _) (.cells #[.bool b, .string x, .string y] 24)).alloc (by simp) (.cells #[.bool false, .string ⟨#[]⟩, .string ⟨#[]⟩] 24)
  obtain ⟨r0, r1, r2, _, _, _⟩ := hA.three
  cases hv : validR b x y with
  | false =>
    rw [hv] at C1
    clear h hv hx hy
    go_enter Tryz.func24, Tryz.ntmps24
    go_wp2_with (go_at_call 45; refine (C1.out _).mono ?_; rintro e w1 ⟨rfl, hb⟩; replace hB := hB.trans (hb.mono hB.size); replace hR := hR.below hb hR.lt; obtain ⟨t0, t1, t2, f0, f1, f2⟩ := hR.three; clear hb)
    obtain ⟨m0, m1, m2⟩ := hR.put3 (.bool false) (.string ⟨#[]⟩) (.string ⟨#[]⟩)
    refine bodyPost_ret (v := noRat) (by simp [results, Tryz.results24, go_sem, noRat, m0, m1, m2]; done) rfl ⟨rfl, ?_⟩
    exact below_put3 hB (by omega) _ _ _
  | true =>
    rw [hv] at C1
    have hn : ¬ (0 ≤ n ∧ n ≤ 200) := by
      rcases h with h | h
      · rw [hv] at h; cases h
      · exact h
    rw [decide_eq_false hn] at CI
    clear h hv hx hy hn
    go_enter Tryz.func24, Tryz.ntmps24
    go_wp2_with (first
      | (go_at_call 45; refine (C1.out _).mono ?_; rintro e w1 ⟨rfl, hb⟩; replace hB := hB.trans (hb.mono hB.size); replace hR := hR.below hb hR.lt; obtain ⟨t0, t1, t2, f0, f1, f2⟩ := hR.three; clear hb)
      | (go_at_call 66; refine (CI.out _).mono ?_; rintro e w2 ⟨rfl, rfl⟩))
    obtain ⟨m0, m1, m2⟩ := hR.put3 (.bool false) (.string ⟨#[]⟩) (.string ⟨#[]⟩)
    refine bodyPost_ret (v := noRat) (by simp [results, Tryz.results24, go_sem, noRat, m0, m1, m2]; done) rfl ⟨rfl, ?_⟩
    exact below_put3 hB (by omega) _ _ _

theorem specPow_any (b : Bool) (x y : ByteArray) (n : Int) (w : World) (hx : x.size ≤ 9223372036854775807) (hy : y.size ≤ 9223372036854775807) :
    Calls Tryz.prog 24 #[.agg #[.bool b, .string x, .string y], .int .i64 n] w fun e w' => e = .returned (powRes b x y n) ∧ Below w.heap.size w w' := by
  unfold powRes
  by_cases h : (validR b x y && decide (0 ≤ n ∧ n ≤ 200)) = true
  · rw [if_pos h]
    rw [Bool.and_eq_true, decide_eq_true_eq] at h
    obtain ⟨k, rfl⟩ : ∃ k : Nat, n = (k : Nat) := ⟨n.toNat, by omega⟩
    rw [Int.toNat_natCast]
    exact specPow_yes b x y k w (by omega) hx hy h.1
  · rw [if_neg h]
    refine specPow_no b x y n w hx hy ?_
    by_cases hn : 0 ≤ n ∧ n ≤ 200
    · left
      rw [decide_eq_true hn, Bool.and_true] at h
      simpa using h
    · exact .inr hn

set_option maxRecDepth 100000 in
set_option maxHeartbeats 3200000 in
theorem implPow_no (b : Bool) (x y : ByteArray) (n : Int) (w : World) (hx : x.size ≤ 9223372036854775807) (hy : y.size ≤ 9223372036854775807) (hU : UnitB w) (hT : Tab64 w) (h : validR b x y = false ∨ n < 0 ∨ 200 < n) :
    Calls Tryz.prog 23 #[.agg #[.bool b, .string x, .string y], .int .i64 n] w fun e w' => e = .returned noRat ∧ Below w.heap.size w w' := by
  have CF : Hid (∀ W, Below w.heap.size w W → _) := Lib.hid fun W hW => fracOf_all b x y W hx hy (hU.below hW) (hT.below hW)
  have hA := (Box.new w 24 #[.bool b, .string x, .string y]).alloc (.cells #[.bool false, .string ⟨#[]⟩, .string ⟨#[]⟩] 24)
  have hR := Box.new (w.alloc (.cells #[.bool b, .string x, .string y] 24)) 24 #[.bool false, .string ⟨#[]⟩, .string ⟨#[]⟩]
  rw [show (w.alloc (.cells #[.bool b, .string x, .string y] 24)).heap.size = w.heap.size + 1 by simp] at hR
  have hB := ((Below.refl w.heap.size w).alloc (Nat.le_refl _) (.cells #[.bool b, .string x, .string y] 24)).alloc (by simp) (.cells #[.bool false, .string ⟨#[]⟩, .string ⟨#[]⟩] 24)
  obtain ⟨r0, r1, r2, _, _, _⟩ := hA.three
  clear hU hT hx hy
  cases hv : validR b x y with
  | false =>
    rw [hv] at CF
    clear h hv
    go_enter Tryz.func23, Tryz.ntmps23
    go_wp2_with (go_at_call 58; refine (CF.out _ hB).mono ?_; rintro e w1 ⟨hh, hb⟩; rw [if_neg (by decide)] at hh; unfold noFrac at hh; obtain rfl := hh; replace hB := (hB.trans (hb.mono hB.size)).alloc (hB.trans (hb.mono hB.size)).size (.cells #[.bool false, .slice none 0 0, .slice none 0 0] 62); replace hR := (hR.below hb hR.lt).alloc (.cells #[.bool false, .slice none 0 0, .slice none 0 0] 62); obtain ⟨t0, t1, t2, f0, f1, f2⟩ := hR.three; clear hb)
    obtain ⟨m0, m1, m2⟩ := hR.put3 (.bool false) (.string ⟨#[]⟩) (.string ⟨#[]⟩)
    refine bodyPost_ret (v := noRat) (by simp [results, Tryz.results23, go_sem, noRat, m0, m1, m2]; done) rfl ⟨rfl, ?_⟩
    exact below_put3 hB (by omega) _ _ _
  | true =>
    rw [hv] at CF
    have hn : n < 0 ∨ (0 ≤ n ∧ 200 < n) := by
      rcases h with h | h | h
      · rw [hv] at h; cases h
      · exact .inl h
      · exact .inr ⟨by omega, h⟩
    clear h hv
    rcases hn with hn | ⟨hn0, hn⟩
    · have hd : decide (n < 0) = true := decide_eq_true hn
      go_enter Tryz.func23, Tryz.ntmps23
      go_wp2_with (go_at_call 58; refine (CF.out _ hB).mono ?_; rintro e w1 ⟨hh, hb⟩; rw [if_pos rfl] at hh; obtain ⟨vn, vd, rfl, hvn, hvd⟩ := hh; obtain ⟨An, cn, rfl, _, _, _⟩ := RowF.open hvn; obtain ⟨Ad, cd, rfl, _, _, _⟩ := RowF.open hvd; replace hB := (hB.trans (hb.mono hB.size)).alloc (hB.trans (hb.mono hB.size)).size (.cells #[.bool b, .slice An (ln WB (numOf x)) cn, .slice Ad (ln WB (numOf y)) cd] 62); replace hR := (hR.below hb hR.lt).alloc (.cells #[.bool b, .slice An (ln WB (numOf x)) cn, .slice Ad (ln WB (numOf y)) cd] 62); obtain ⟨t0, t1, t2, f0, f1, f2⟩ := hR.three; clear hb hvn hvd)
      obtain ⟨m0, m1, m2⟩ := hR.put3 (.bool false) (.string ⟨#[]⟩) (.string ⟨#[]⟩)
      refine bodyPost_ret (v := noRat) (by simp [results, Tryz.results23, go_sem, noRat, m0, m1, m2]; done) rfl ⟨rfl, ?_⟩
      exact below_put3 hB (by omega) _ _ _
    · have hd : decide (n < 0) = false := decide_eq_false (by omega)
      have hd2 : decide (200 < n) = true := decide_eq_true hn
      go_enter Tryz.func23, Tryz.ntmps23
      go_wp2_with (go_at_call 58; refine (CF.out _ hB).mono ?_; rintro e w1 ⟨hh, hb⟩; rw [if_pos rfl] at hh; obtain ⟨vn, vd, rfl, hvn, hvd⟩ := hh; obtain ⟨An, cn, rfl, _, _, _⟩ := RowF.open hvn; obtain ⟨Ad, cd, rfl, _, _, _⟩ := RowF.open hvd; replace hB := (hB.trans (hb.mono hB.size)).alloc (hB.trans (hb.mono hB.size)).size (.cells #[.bool b, .slice An (ln WB (numOf x)) cn, .slice Ad (ln WB (numOf y)) cd] 62); replace hR := (hR.below hb hR.lt).alloc (.cells #[.bool b, .slice An (ln WB (numOf x)) cn, .slice Ad (ln WB (numOf y)) cd] 62); obtain ⟨t0, t1, t2, f0, f1, f2⟩ := hR.three; clear hb hvn hvd)
      obtain ⟨m0, m1, m2⟩ := hR.put3 (.bool false) (.string ⟨#[]⟩) (.string ⟨#[]⟩)
      refine bodyPost_ret (v := noRat) (by simp [results, Tryz.results23, go_sem, noRat, m0, m1, m2]; done) rfl ⟨rfl, ?_⟩
      exact below_put3 hB (by omega) _ _ _

set_option maxRecDepth 100000 in
set_option maxHeartbeats 3200000 in
theorem implPow_yes (b : Bool) (x y : ByteArray) (n : Nat) (w : World) (hn : n ≤ 200) (hx : x.size ≤ 9223372036854775807) (hy : y.size ≤ 9223372036854775807) (hU : UnitB w) (hT : Tab64 w) (hP : TabP w) (hv : validR b x y = true) :
    Calls Tryz.prog 23 #[.agg #[.bool b, .string x, .string y], .int .i64 (n : Nat)] w fun e w' => e = .returned (ratRes (b && decide (n % 2 = 1)) (numOf x ^ n) (numOf y ^ n)) ∧ Below w.heap.size w w' := by
  have CF : Hid (∀ W, Below w.heap.size w W → _) := Lib.hid fun W hW => fracOf_all b x y W hx hy (hU.below hW) (hT.below hW)
  rw [hv] at CF
  obtain ⟨m1, m2, _, _⟩ := validR_num hv
  have lX := ln_capS m1
  have lY := ln_capS m2
  obtain ⟨X, hX⟩ : ∃ X, X = numOf x := ⟨_, rfl⟩
  obtain ⟨Y, hY⟩ : ∃ Y, Y = numOf y := ⟨_, rfl⟩
  obtain ⟨sg, hsg⟩ : ∃ sg, sg = (b && decide (n % 2 = 1)) := ⟨_, rfl⟩
  rw [← hX] at CF lX ⊢
  rw [← hY] at CF lY ⊢
  rw [← hsg]
  have CR : Hid (∀ (vn vd : Value) (W : World), Below w.heap.size w W → Nums 54 .u64 WB W vn (X ^ n) → Nums 54 .u64 WB W vd (Y ^ n) → _) := Lib.hid fun vn vd W hW g1 g2 => ratF_all sg vn vd (X ^ n) (Y ^ n) W (staysP.below _ _ hP hW) g1 g2
  have HSG := Lib.hid hsg
  clear hX hY hU hT hP hv m1 m2 hx hy hsg
  have hA := (Box.new w 24 #[.bool b, .string x, .string y]).alloc (.cells #[.bool false, .string ⟨#[]⟩, .string ⟨#[]⟩] 24)
  have hR := Box.new (w.alloc (.cells #[.bool b, .string x, .string y] 24)) 24 #[.bool false, .string ⟨#[]⟩, .string ⟨#[]⟩]
  rw [show (w.alloc (.cells #[.bool b, .string x, .string y] 24)).heap.size = w.heap.size + 1 by simp] at hR
  have hB := ((Below.refl w.heap.size w).alloc (Nat.le_refl _) (.cells #[.bool b, .string x, .string y] 24)).alloc (by simp) (.cells #[.bool false, .string ⟨#[]⟩, .string ⟨#[]⟩] 24)
  obtain ⟨r0, r1, r2, _, _, _⟩ := hA.three
  have hd1 : decide ((n : Int) < 0) = false := decide_eq_false (by omega)
  have hd2 : decide ((200 : Int) < (n : Int)) = false := decide_eq_false (by omega)
  by_cases g1 : ln WB (X ^ n) ≤ 7
  · by_cases g2 : ln WB (Y ^ n) ≤ 7
    · obtain ⟨rb, rx, ry, rc, hres⟩ := ratRes_shape sg (X ^ n) (Y ^ n)
      rw [hres] at CR ⊢
      clear hres
      have G1 := Lib.hid g1
      have G2 := Lib.hid g2
      clear g1 g2
      cases b with
      | false =>
        obtain rfl : false = sg := by rw [HSG.out]; rfl
        clear HSG
        go_enter Tryz.func23, Tryz.ntmps23
        go_wp2_with (first
          | (go_at_call 58; refine (CF.out _ hB).mono ?_; rintro e w1 ⟨hh, hb⟩; rw [if_pos rfl] at hh; obtain ⟨vn, vd, rfl, hvn, hvd⟩ := hh; obtain ⟨An, cn, rfl, _, _, _⟩ := RowF.open hvn; obtain ⟨Ad, cd, rfl, _, _, _⟩ := RowF.open hvd; have hB1 := (hB.trans (hb.mono hB.size)).alloc (hB.trans (hb.mono hB.size)).size (.cells #[.bool false, .slice An (ln WB X) cn, .slice Ad (ln WB Y) cd] 62); have hR1 := (hR.below hb hR.lt).alloc (.cells #[.bool false, .slice An (ln WB X) cn, .slice Ad (ln WB Y) cd] 62); have hK := Box.new w1 62 #[.bool false, .slice An (ln WB X) cn, .slice Ad (ln WB Y) cd]; obtain ⟨k0, k1, k2, _, _, _⟩ := hK.three; have Hn := Lib.hid (hvn.below ((Below.refl w1.heap.size w1).alloc (Nat.le_refl _) (.cells #[.bool false, .slice An (ln WB X) cn, .slice Ad (ln WB Y) cd] 62)) (Nat.le_refl _)); have Hd := Lib.hid (hvd.below ((Below.refl w1.heap.size w1).alloc (Nat.le_refl _) (.cells #[.bool false, .slice An (ln WB X) cn, .slice Ad (ln WB Y) cd] 62)) (Nat.le_refl _)); clear hb hvn hvd)
          | (go_at_call_of 65 (Value.slice An (ln WB X) cn); refine (powW_any _ X n _ Hn.out hn lX).mono ?_; rintro e w5 ⟨⟨v5, rfl, ⟨q5, m5, c5, rfl⟩, h5⟩, hb5⟩; rw [decide_eq_true G1.out]; have hB5 := hB1.trans (hb5.mono hB1.size); have hR5 := hR1.below hb5 hR1.lt; have hK5 := hK.below hb5 hK.lt; obtain ⟨j0, j1, j2, _, _, _⟩ := hK5.three; have h5 := Lib.hid h5)
          | (go_at_call_of 65 (Value.slice Ad (ln WB Y) cd); refine (powW_any _ Y n _ (Hd.out.below hb5 (Nat.le_refl _)) hn lY).mono ?_; rintro e w6 ⟨⟨v6, rfl, ⟨q6, m6, c6, rfl⟩, h6⟩, hb6⟩; rw [decide_eq_true G2.out]; have hB6 := hB5.trans (hb6.mono hB5.size); have hR6 := hR5.below hb6 hR5.lt; have hK6 := hK5.below hb6 hK5.lt; obtain ⟨i0, i1, i2, _, _, _⟩ := hK6.three; obtain ⟨z0, z1, z2, f0, f1, f2⟩ := hR6.three; have h6 := Lib.hid h6)
          | (go_at_call 43; refine (CR.out _ _ _ hB6 ((h5.out G1.out).below hb6 (Nat.le_refl _)) (h6.out G2.out)).mono ?_; rintro e w7 ⟨rfl, hb7⟩; have hR7 := hR6.below hb7 hR6.lt; obtain ⟨y0, y1, y2, e0, e1, e2⟩ := hR7.three))
        obtain ⟨m0, m1, m2⟩ := hR7.put3 (.bool rb) (.string rx) (.string ry)
        refine bodyPost_ret (v := .tuple #[.agg #[.bool rb, .string rx, .string ry], .bool rc]) (by simp [results, Tryz.results23, go_sem, m0, m1, m2]; done) rfl ⟨rfl, ?_⟩
        exact below_put3 (hB6.trans (hb7.mono hB6.size)) (by omega) _ _ _
      | true =>
        obtain rfl : ((n : Int) % 2 == 1) = sg := by
          rw [HSG.out, Bool.true_and, Bool.eq_iff_iff, beq_iff_eq, decide_eq_true_eq]
          omega
        clear HSG
        go_enter Tryz.func23, Tryz.ntmps23
        go_wp2_with (first
          | (go_at_call 58; refine (CF.out _ hB).mono ?_; rintro e w1 ⟨hh, hb⟩; rw [if_pos rfl] at hh; obtain ⟨vn, vd, rfl, hvn, hvd⟩ := hh; obtain ⟨An, cn, rfl, _, _, _⟩ := RowF.open hvn; obtain ⟨Ad, cd, rfl, _, _, _⟩ := RowF.open hvd; have hB1 := (hB.trans (hb.mono hB.size)).alloc (hB.trans (hb.mono hB.size)).size (.cells #[.bool true, .slice An (ln WB X) cn, .slice Ad (ln WB Y) cd] 62); have hR1 := (hR.below hb hR.lt).alloc (.cells #[.bool true, .slice An (ln WB X) cn, .slice Ad (ln WB Y) cd] 62); have hK := Box.new w1 62 #[.bool true, .slice An (ln WB X) cn, .slice Ad (ln WB Y) cd]; obtain ⟨k0, k1, k2, _, _, _⟩ := hK.three; have Hn := Lib.hid (hvn.below ((Below.refl w1.heap.size w1).alloc (Nat.le_refl _) (.cells #[.bool true, .slice An (ln WB X) cn, .slice Ad (ln WB Y) cd] 62)) (Nat.le_refl _)); have Hd := Lib.hid (hvd.below ((Below.refl w1.heap.size w1).alloc (Nat.le_refl _) (.cells #[.bool true, .slice An (ln WB X) cn, .slice Ad (ln WB Y) cd] 62)) (Nat.le_refl _)); clear hb hvn hvd)
          | (go_at_call_of 65 (Value.slice An (ln WB X) cn); refine (powW_any _ X n _ Hn.out hn lX).mono ?_; rintro e w5 ⟨⟨v5, rfl, ⟨q5, m5, c5, rfl⟩, h5⟩, hb5⟩; rw [decide_eq_true G1.out]; have hB5 := hB1.trans (hb5.mono hB1.size); have hR5 := hR1.below hb5 hR1.lt; have hK5 := hK.below hb5 hK.lt; obtain ⟨j0, j1, j2, _, _, _⟩ := hK5.three; have h5 := Lib.hid h5)
          | (go_at_call_of 65 (Value.slice Ad (ln WB Y) cd); refine (powW_any _ Y n _ (Hd.out.below hb5 (Nat.le_refl _)) hn lY).mono ?_; rintro e w6 ⟨⟨v6, rfl, ⟨q6, m6, c6, rfl⟩, h6⟩, hb6⟩; rw [decide_eq_true G2.out]; have hB6 := hB5.trans (hb6.mono hB5.size); have hR6 := hR5.below hb6 hR5.lt; have hK6 := hK5.below hb6 hK5.lt; obtain ⟨i0, i1, i2, _, _, _⟩ := hK6.three; obtain ⟨z0, z1, z2, f0, f1, f2⟩ := hR6.three; have h6 := Lib.hid h6)
          | (go_at_call 43; refine (CR.out _ _ _ hB6 ((h5.out G1.out).below hb6 (Nat.le_refl _)) (h6.out G2.out)).mono ?_; rintro e w7 ⟨rfl, hb7⟩; have hR7 := hR6.below hb7 hR6.lt; obtain ⟨y0, y1, y2, e0, e1, e2⟩ := hR7.three))
        obtain ⟨m0, m1, m2⟩ := hR7.put3 (.bool rb) (.string rx) (.string ry)
        refine bodyPost_ret (v := .tuple #[.agg #[.bool rb, .string rx, .string ry], .bool rc]) (by simp [results, Tryz.results23, go_sem, m0, m1, m2]; done) rfl ⟨rfl, ?_⟩
        exact below_put3 (hB6.trans (hb7.mono hB6.size)) (by omega) _ _ _
    · rw [unfit (.inr (wide_not _ (by omega)))]
      have G1 := Lib.hid g1
      have G2 := Lib.hid g2
      clear g1 g2 CR
      go_enter Tryz.func23, Tryz.ntmps23
      go_wp2_with (first
        | (go_at_call 58; refine (CF.out _ hB).mono ?_; rintro e w1 ⟨hh, hb⟩; rw [if_pos rfl] at hh; obtain ⟨vn, vd, rfl, hvn, hvd⟩ := hh; obtain ⟨An, cn, rfl, _, _, _⟩ := RowF.open hvn; obtain ⟨Ad, cd, rfl, _, _, _⟩ := RowF.open hvd; have hB1 := (hB.trans (hb.mono hB.size)).alloc (hB.trans (hb.mono hB.size)).size (.cells #[.bool b, .slice An (ln WB X) cn, .slice Ad (ln WB Y) cd] 62); have hR1 := (hR.below hb hR.lt).alloc (.cells #[.bool b, .slice An (ln WB X) cn, .slice Ad (ln WB Y) cd] 62); have hK := Box.new w1 62 #[.bool b, .slice An (ln WB X) cn, .slice Ad (ln WB Y) cd]; obtain ⟨k0, k1, k2, _, _, _⟩ := hK.three; have Hn := Lib.hid (hvn.below ((Below.refl w1.heap.size w1).alloc (Nat.le_refl _) (.cells #[.bool b, .slice An (ln WB X) cn, .slice Ad (ln WB Y) cd] 62)) (Nat.le_refl _)); have Hd := Lib.hid (hvd.below ((Below.refl w1.heap.size w1).alloc (Nat.le_refl _) (.cells #[.bool b, .slice An (ln WB X) cn, .slice Ad (ln WB Y) cd] 62)) (Nat.le_refl _)); clear hb hvn hvd)
        | (go_at_call_of 65 (Value.slice An (ln WB X) cn); refine (powW_any _ X n _ Hn.out hn lX).mono ?_; rintro e w5 ⟨⟨v5, rfl, ⟨q5, m5, c5, rfl⟩, h5⟩, hb5⟩; rw [decide_eq_true G1.out]; have hB5 := hB1.trans (hb5.mono hB1.size); have hR5 := hR1.below hb5 hR1.lt; have hK5 := hK.below hb5 hK.lt; obtain ⟨j0, j1, j2, _, _, _⟩ := hK5.three; have h5 := Lib.hid h5)
        | (go_at_call_of 65 (Value.slice Ad (ln WB Y) cd); refine (powW_any _ Y n _ (Hd.out.below hb5 (Nat.le_refl _)) hn lY).mono ?_; rintro e w6 ⟨⟨v6, rfl, ⟨q6, m6, c6, rfl⟩, h6⟩, hb6⟩; rw [decide_eq_false G2.out]; have hB6 := hB5.trans (hb6.mono hB5.size); have hR6 := hR5.below hb6 hR5.lt; have hK6 := hK5.below hb6 hK5.lt; obtain ⟨i0, i1, i2, _, _, _⟩ := hK6.three; obtain ⟨z0, z1, z2, f0, f1, f2⟩ := hR6.three; have h6 := Lib.hid h6))
      obtain ⟨m0, m1, m2⟩ := hR6.put3 (.bool false) (.string ⟨#[]⟩) (.string ⟨#[]⟩)
      refine bodyPost_ret (v := noRat) (by simp [results, Tryz.results23, go_sem, noRat, m0, m1, m2]; done) rfl ⟨rfl, ?_⟩
      exact below_put3 hB6 (by omega) _ _ _
  · rw [unfit (.inl (wide_not _ (by omega)))]
    obtain ⟨c2, hc2⟩ : ∃ c2, c2 = decide (ln WB (Y ^ n) ≤ 7) := ⟨_, rfl⟩
    have G1 := Lib.hid g1
    have G2 := Lib.hid hc2
    clear g1 hc2 CR
    go_enter Tryz.func23, Tryz.ntmps23
    go_wp2_with (first
      | (go_at_call 58; refine (CF.out _ hB).mono ?_; rintro e w1 ⟨hh, hb⟩; rw [if_pos rfl] at hh; obtain ⟨vn, vd, rfl, hvn, hvd⟩ := hh; obtain ⟨An, cn, rfl, _, _, _⟩ := RowF.open hvn; obtain ⟨Ad, cd, rfl, _, _, _⟩ := RowF.open hvd; have hB1 := (hB.trans (hb.mono hB.size)).alloc (hB.trans (hb.mono hB.size)).size (.cells #[.bool b, .slice An (ln WB X) cn, .slice Ad (ln WB Y) cd] 62); have hR1 := (hR.below hb hR.lt).alloc (.cells #[.bool b, .slice An (ln WB X) cn, .slice Ad (ln WB Y) cd] 62); have hK := Box.new w1 62 #[.bool b, .slice An (ln WB X) cn, .slice Ad (ln WB Y) cd]; obtain ⟨k0, k1, k2, _, _, _⟩ := hK.three; have Hn := Lib.hid (hvn.below ((Below.refl w1.heap.size w1).alloc (Nat.le_refl _) (.cells #[.bool b, .slice An (ln WB X) cn, .slice Ad (ln WB Y) cd] 62)) (Nat.le_refl _)); have Hd := Lib.hid (hvd.below ((Below.refl w1.heap.size w1).alloc (Nat.le_refl _) (.cells #[.bool b, .slice An (ln WB X) cn, .slice Ad (ln WB Y) cd] 62)) (Nat.le_refl _)); clear hb hvn hvd)
      | (go_at_call_of 65 (Value.slice An (ln WB X) cn); refine (powW_any _ X n _ Hn.out hn lX).mono ?_; rintro e w5 ⟨⟨v5, rfl, ⟨q5, m5, c5, rfl⟩, h5⟩, hb5⟩; rw [decide_eq_false G1.out]; have hB5 := hB1.trans (hb5.mono hB1.size); have hR5 := hR1.below hb5 hR1.lt; have hK5 := hK.below hb5 hK.lt; obtain ⟨j0, j1, j2, _, _, _⟩ := hK5.three; have h5 := Lib.hid h5)
      | (go_at_call_of 65 (Value.slice Ad (ln WB Y) cd); refine (powW_any _ Y n _ (Hd.out.below hb5 (Nat.le_refl _)) hn lY).mono ?_; rintro e w6 ⟨⟨v6, rfl, ⟨q6, m6, c6, rfl⟩, h6⟩, hb6⟩; rw [← G2.out]; have hB6 := hB5.trans (hb6.mono hB5.size); have hR6 := hR5.below hb6 hR5.lt; have hK6 := hK5.below hb6 hK5.lt; obtain ⟨i0, i1, i2, _, _, _⟩ := hK6.three; obtain ⟨z0, z1, z2, f0, f1, f2⟩ := hR6.three; have h6 := Lib.hid h6))
    obtain ⟨m0, m1, m2⟩ := hR6.put3 (.bool false) (.string ⟨#[]⟩) (.string ⟨#[]⟩)
    refine bodyPost_ret (v := noRat) (by simp [results, Tryz.results23, go_sem, noRat, m0, m1, m2]; done) rfl ⟨rfl, ?_⟩
    exact below_put3 hB6 (by omega) _ _ _

theorem implPow_any (b : Bool) (x y : ByteArray) (n : Int) (w : World) (hx : x.size ≤ 9223372036854775807) (hy : y.size ≤ 9223372036854775807) (hU : UnitB w) (hT : Tab64 w) (hP : TabP w) :
    Calls Tryz.prog 23 #[.agg #[.bool b, .string x, .string y], .int .i64 n] w fun e w' => e = .returned (powRes b x y n) ∧ Below w.heap.size w w' := by
  unfold powRes
  by_cases h : (validR b x y && decide (0 ≤ n ∧ n ≤ 200)) = true
  · rw [if_pos h]
    rw [Bool.and_eq_true, decide_eq_true_eq] at h
    obtain ⟨k, rfl⟩ : ∃ k : Nat, n = (k : Nat) := ⟨n.toNat, by omega⟩
    rw [Int.toNat_natCast]
    exact implPow_yes b x y k w (by omega) hx hy hU hT hP h.1
  · rw [if_neg h]
    refine implPow_no b x y n w hx hy hU hT ?_
    by_cases hn : 0 ≤ n ∧ n ≤ 200
    · left
      rw [decide_eq_true hn, Bool.and_true] at h
      simpa using h
    · right; omega

end Go.Proofs.YtmmonglcbkefmaaGreatDoor
