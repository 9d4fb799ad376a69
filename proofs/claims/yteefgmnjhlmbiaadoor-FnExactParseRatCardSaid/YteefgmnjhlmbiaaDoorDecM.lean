/-
  DecimalOf: what it writes; the model's.
-/
import Derived.Test.YteefgmnjhlmbiaaDoorPowI
import Derived.Test.YteefgmnjhlmbiaaDoorFmtR
namespace Go.Proofs.YteefgmnjhlmbiaaDoor
open Go.RowKit Num

/-- The decimal fraction with k digits behind the point. -/
def decTxt (b : Bool) (X Y k : Nat) : List UInt8 := (if b = true then [45] else []) ++ decL (X / Y) ++ (if 0 < k then 46 :: padL k (X * 10 ^ k / Y) else [])

theorem padL_nil (k : Nat) : padL k 0 = List.replicate k 48 := by
  induction k with
  | zero => rfl
  | succ k ih =>
    show padL k (0 / 10) ++ [UInt8.ofNat (48 + 0 % 10)] = _
    rw [Nat.zero_div, ih, List.replicate_succ']
    rfl

theorem padL_length (k d : Nat) : (padL k d).length = k := by
  induction k generalizing d with
  | zero => rfl
  | succ k ih =>
    show (padL k (d / 10) ++ [UInt8.ofNat (48 + d % 10)]).length = _
    rw [List.length_append, ih]; rfl

/-- A numeral with zeros in front: its whole part and its last k digits. -/
theorem pad_split (k Q : Nat) : List.replicate (k + 1 - (decL Q).length) 48 ++ decL Q = decL (Q / 10 ^ k) ++ padL k Q := by
  induction k generalizing Q with
  | zero =>
    have := decL_pos Q
    rw [show 0 + 1 - (decL Q).length = 0 by omega, Nat.pow_zero, Nat.div_one]
    show [] ++ decL Q = decL Q ++ []
    simp
  | succ k ih =>
    show _ = decL (Q / 10 ^ (k + 1)) ++ (padL k (Q / 10) ++ [UInt8.ofNat (48 + Q % 10)])
    rw [Nat.pow_succ, Nat.mul_comm (10 ^ k) 10, ← Nat.div_div_eq_div_mul]
    by_cases h : 10 ≤ Q
    · have hs := decL_step Q h
      have hl : (decL Q).length = (decL (Q / 10)).length + 1 := by rw [hs, List.length_append]; rfl
      rw [hl, show k + 1 + 1 - ((decL (Q / 10)).length + 1) = k + 1 - (decL (Q / 10)).length by omega, hs, ← List.append_assoc, ih, List.append_assoc]
    · have hs := decL_small Q (by omega)
      have h0 : Q / 10 = 0 := by omega
      have hd : decL 0 = [48] := rfl
      rw [h0, Nat.zero_div, padL_nil, hs, hd, Nat.mod_eq_of_lt (by omega)]
      show List.replicate (k + 1 + 1 - 1) 48 ++ _ = _
      rw [show k + 1 + 1 - 1 = k + 1 by omega, ← List.append_assoc, List.replicate_succ]
      rfl

/-- One more digit. -/
theorem dig_next (X Y j : Nat) (hY : 0 < Y) : X * 10 ^ (j + 1) / Y = 10 * (X * 10 ^ j / Y) + X * 10 ^ j % Y * 10 / Y ∧ X * 10 ^ (j + 1) % Y = X * 10 ^ j % Y * 10 % Y ∧ X * 10 ^ j % Y * 10 / Y < 10 := by
  have h := Nat.div_add_mod (X * 10 ^ j) Y
  have hr := Nat.mod_lt (X * 10 ^ j) hY
  obtain ⟨q, hq⟩ : ∃ q, q = X * 10 ^ j / Y := ⟨_, rfl⟩
  obtain ⟨r, hr'⟩ : ∃ r, r = X * 10 ^ j % Y := ⟨_, rfl⟩
  rw [← hq, ← hr'] at h
  rw [← hr'] at hr
  rw [← hq, ← hr']
  have e : X * 10 ^ (j + 1) = Y * (10 * q) + r * 10 := by
    rw [Nat.pow_succ, ← Nat.mul_assoc, ← h, Nat.add_mul, Nat.mul_assoc, Nat.mul_comm q 10]
  refine ⟨?_, ?_, ?_⟩
  · rw [e, Nat.mul_add_div hY]
  · rw [e, Nat.mul_add_mod]
  · exact Nat.div_lt_of_lt_mul (by rw [Nat.mul_comm r 10, Nat.mul_comm Y 10]; omega)

theorem pad_next (j Q c : Nat) (hc : c < 10) : padL (j + 1) (10 * Q + c) = padL j Q ++ decL c := by
  show padL j ((10 * Q + c) / 10) ++ [UInt8.ofNat (48 + (10 * Q + c) % 10)] = _
  rw [show (10 * Q + c) / 10 = Q by omega, show (10 * Q + c) % 10 = c by omega, decL_small c hc]

theorem toList_app (a b : ByteArray) : (a ++ b).toList = a.toList ++ b.toList := by
  rw [bytes_app, toList_mk]

theorem of_list {S : ByteArray} {l : List UInt8} (h : S.toList = l) : S = ⟨l.toArray⟩ := by
  rw [← h, Lib.toList_data]

theorem dec_toList (n : Nat) : (dec n).toList = decL n := toList_mk _

set_option maxRecDepth 100000 in
set_option maxHeartbeats 3200000 in
theorem specDec_yes (b : Bool) (x y : ByteArray) (n : Nat) (w : World) (hn : n ≤ 50) (hx : x.size ≤ 9223372036854775807) (hy : y.size ≤ 9223372036854775807) (hv : validR b x y = true) :
    Calls Tryd.prog 37 #[.agg #[.bool b, .string x, .string y], .int .i64 (n : Nat)] w fun e w' => e = .returned (.tuple #[.string ⟨(decTxt b (numOf x) (numOf y) n).toArray⟩, .bool true]) ∧ Below w.heap.size w w' := by
  have C1 : Hid (∀ W, _) := Lib.hid fun W => validS_any b x y W hx hy
  rw [hv] at C1
  obtain ⟨m1, m2, m3, m4⟩ := validR_num hv
  have CQ : Hid (∀ W, _) := Lib.hid fun W => toQ_any b x y W m1 m2
  have lX := num_lt_room m1
  have lY := num_lt_room m2
  have hXl := numOf_lt m1
  obtain ⟨X, hX⟩ : ∃ X, X = numOf x := ⟨_, rfl⟩
  obtain ⟨Y, hY⟩ : ∃ Y, Y = numOf y := ⟨_, rfl⟩
  rw [← hX] at CQ lX hXl ⊢
  rw [← hY] at m3 CQ lY ⊢
  have pY : 0 < Y := by omega
  have CI : Hid (∀ W, _) := Lib.hid fun W => in_any (n : Nat) 0 50 W
  rw [decide_eq_true (by omega : (0 : Int) ≤ (n : Nat) ∧ ((n : Nat) : Int) ≤ 50)] at CI
  have hwl : (dec (X / Y)).size ≤ 200 := by
    show (decL (X / Y)).length ≤ 200
    exact Nat.le_trans (decL_le 120 _ (by omega) (Nat.lt_of_le_of_lt (Nat.div_le_self _ _) hXl)) (by omega)
  have hwt := dec_toList (X / Y)
  obtain ⟨D, hD⟩ : ∃ D, D = dec (X / Y) := ⟨_, rfl⟩
  have CT : Hid (∀ (v : Value) (W : World), Nums 3 .i64 10000 W v (X / Y) → _) := Lib.hid fun v W g => text_dec v (X / Y) W g (Nat.le_trans (ln_mono 10000 _ _ (by omega) (Nat.div_le_self X Y)) (by omega))
  rw [← hD] at hwl hwt CT
  have HWT := Lib.hid hwt
  clear hX hY m1 m2 m3 m4 hv hx hy hD hwt hXl
  have hA := Box.new w 26 #[.bool b, .string x, .string y]
  have hB := (Below.refl w.heap.size w).alloc (Nat.le_refl _) (.cells #[.bool b, .string x, .string y] 26)
  obtain ⟨r0, r1, r2, _, _, _⟩ := hA.three
  have g1 : ¬ 9223372036854775807 < 1 + D.size := by omega
  have g2 : ¬ 9223372036854775807 < D.size + 1 := by omega
  have g3 : ¬ 9223372036854775807 < 1 + D.size + 1 := by omega
  cases b with
  | false =>
    go_enter Tryd.func37, Tryd.ntmps37
    go_upto_region 8 with (first
      | (go_at_call 39; refine (C1.out _).mono ?_; rintro e w1 ⟨rfl, hb⟩; replace hB := hB.trans (hb.mono hB.size); replace hA := hA.below hb hA.lt; clear hb r0 r1 r2; obtain ⟨r0, r1, r2, _, _, _⟩ := hA.three)
      | (go_at_call 58; refine (CI.out _).mono ?_; rintro e w2 ⟨rfl, rfl⟩)
      | (go_at_call 46; refine (CQ.out _).mono ?_; rintro e w3 ⟨⟨v, rfl, vn, vd, rfl, hvn, hvd⟩, hb⟩; obtain ⟨An, cn, rfl, _, _, _⟩ := RowF.open hvn; obtain ⟨Ad, cd, rfl, _, _, _⟩ := RowF.open hvd; replace hB := (hB.trans (hb.mono hB.size)).alloc (hB.trans (hb.mono hB.size)).size (.cells #[.bool false, .slice An (ln 10000 X) cn, .slice Ad (ln 10000 Y) cd] 53); replace hA := (hA.below hb hA.lt).alloc (.cells #[.bool false, .slice An (ln 10000 X) cn, .slice Ad (ln 10000 Y) cd] 53); have hK := Box.new w3 53 #[.bool false, .slice An (ln 10000 X) cn, .slice Ad (ln 10000 Y) cd]; have Hn := Lib.hid (hvn.below ((Below.refl w3.heap.size w3).alloc (Nat.le_refl _) (.cells #[.bool false, .slice An (ln 10000 X) cn, .slice Ad (ln 10000 Y) cd] 53)) (Nat.le_refl _)); have Hd := Lib.hid (hvd.below ((Below.refl w3.heap.size w3).alloc (Nat.le_refl _) (.cells #[.bool false, .slice An (ln 10000 X) cn, .slice Ad (ln 10000 Y) cd] 53)) (Nat.le_refl _)); clear hb r0 r1 r2 hvn hvd; obtain ⟨r0, r1, r2, _, _, _⟩ := hA.three; obtain ⟨k0, k1, k2, _, _, _⟩ := hK.three)
      | (go_at_call 71; refine (divNat_any _ _ X Y _ Hn.out Hd.out pY (by omega) (by omega)).mono ?_; rintro e w4 ⟨⟨v4, v5, rfl, hv4, hv5⟩, hb⟩; replace hB := hB.trans (hb.mono hB.size); replace hA := hA.below hb hA.lt; replace hK := hK.below hb hK.lt; replace Hd := Lib.hid (Hd.out.below hb (Nat.le_refl _)); have Hw := Lib.hid hv4; have Hr := Lib.hid hv5; clear hb hv4 hv5 r0 r1 r2 k0 k1 k2; obtain ⟨r0, r1, r2, _, _, _⟩ := hA.three; obtain ⟨k0, k1, k2, _, _, _⟩ := hK.three)
      | (go_at_call 61; refine (CT.out _ _ Hw.out).mono ?_; rintro e w5 ⟨rfl, hb⟩; replace hB := hB.trans (hb.mono hB.size); replace hA := hA.below hb hA.lt; replace hK := hK.below hb hK.lt; replace Hd := Lib.hid (Hd.out.below hb (Nat.le_refl _)); replace Hr := Lib.hid (Hr.out.below hb (Nat.le_refl _)); clear hb r0 r1 r2 k0 k1 k2; obtain ⟨r0, r1, r2, _, _, _⟩ := hA.three; obtain ⟨k0, k1, k2, _, _, _⟩ := hK.three))
    have hTl : D.toList = decL (X / Y) := HWT.out
    have hTs : D.size ≤ 201 := by omega
    obtain ⟨T, hT⟩ : ∃ T, T = D := ⟨_, rfl⟩
    rw [← hT] at hTl hTs ⊢
    clear hT
    obtain ⟨P0, hP0⟩ : ∃ P0 : List UInt8, P0 = decL (X / Y) ++ (if 0 < n then [46] else []) := ⟨_, rfl⟩
    have HTL := Lib.hid hTl
    have HP0 := Lib.hid hP0
    clear hTl hP0 C1 CQ CI CT Hw Hn hA r0 r1 r2 k0 k1 k2 g1 g2 g3 hwl
    have g4 : ¬ 9223372036854775807 < T.size + 1 := by omega
    have hs5 := hB.size
    have hKlt := hK.lt
    have hst : ∃ S0 : ByteArray, (if 0 < n then T ++ ⟨#[46]⟩ else T) = S0 ∧ S0.toList = P0 ∧ S0.size ≤ 202 := by
      refine ⟨_, rfl, ?_, ?_⟩
      · rw [HP0.out]
        split
        · rw [toList_app, HTL.out]; exact congrArg (_ ++ ·) (toList_mk [46])
        · rw [HTL.out, List.append_nil]
      · split
        · have h := len_list (T ++ ⟨#[46]⟩)
          have h2 := len_list T
          rw [toList_app, List.length_append, h2] at h
          have h3 : (⟨#[46]⟩ : ByteArray).toList.length = 1 := by rw [show (⟨#[46]⟩ : ByteArray).toList = [46] from toList_mk [46]]; rfl
          omega
        · omega
    obtain ⟨S0, hS0, hSl, hSs⟩ := hst
    have HSl := Lib.hid hSl
    clear hSl
    by_cases hk : 0 < n
    · rw [if_pos hk] at hS0
      have HK := Lib.hid hk
      go_wp2_with fail
      (try rw [hS0])
      clear hS0 hk
      have Hsd := Lib.hid (And.intro hs5 hKlt)
      go_loopg [1, 8, 9] n (fun q dv rv sv wr => ∃ (j : Nat) (S : ByteArray), j + q = n ∧ dv = .int .i64 (q : Nat) ∧ sv = .string S ∧ S.toList = P0 ++ padL j (X * 10 ^ j / Y) ∧ S.size ≤ 202 + 5 * j ∧ Nums 3 .i64 10000 wr rv (X * 10 ^ j % Y) ∧ Below w5.heap.size w5 wr)
      case atStart =>
        refine ⟨0, _, by omega, rfl, rfl, ?_, by omega, ?_, Below.refl _ _⟩
        · rw [HSl.out]; exact (List.append_nil _).symm
        · rw [Nat.pow_zero, Nat.mul_one]; exact Hr.out
      case round =>
        obtain ⟨j, S, hj, rfl, rfl, hSl, hSs2, hrem, hbel⟩ := hrel
        have HSL := Lib.hid hSl
        obtain ⟨N1, N2, N3⟩ := dig_next X Y j pY
        obtain ⟨R, hR⟩ : ∃ R, R = X * 10 ^ j % Y := ⟨_, rfl⟩
        have hRlt : R < Y := by rw [hR]; exact Nat.mod_lt _ pY
        rw [← hR] at hrem N1 N2 N3
        obtain ⟨c, hc⟩ : ∃ c, c = R * 10 / Y := ⟨_, rfl⟩
        rw [← hc] at N1 N3
        have NN := Lib.hid (And.intro N1 N2)
        have HC := Lib.hid hc
        have HR' := Lib.hid hR
        obtain ⟨Ar, cr, rfl, _, _, _⟩ := RowF.open hrem
        have Hr' := Lib.hid hrem
        have lR : ln 10000 R ≤ 137438953472 := Nat.le_trans (ln_mono 10000 _ _ (by omega) (Nat.le_of_lt hRlt)) lY
        have lR10 : ln 10000 (R * 10) ≤ 274877906944 := Nat.le_trans (ln_mul 10000 _ _ (by omega)) (by have : ln 10000 10 ≤ 1 := ln_le_of_lt 10000 10 1 (by omega) (by omega); omega)
        have l10 : ln 10000 10 ≤ 1 := ln_le_of_lt 10000 10 1 (by omega) (by omega)
        have hKr := hK.below hbel Hsd.out.2
        clear hSl N1 N2 hc hR hrem
        by_cases h0 : 0 < gk
        · have hEs : (dec c).size ≤ 5 := by
            show (decL c).length ≤ 5
            exact decL_len c (by omega)
          have HE := Lib.hid (dec_toList c)
          obtain ⟨E, hE⟩ : ∃ E, E = dec c := ⟨_, rfl⟩
          have CE : Hid (∀ (v : Value) (W : World), Nums 3 .i64 10000 W v c → _) := Lib.hid fun v W g => text_dec v c W g (Nat.le_trans (ln_le_of_lt 10000 c 1 (by omega) (by omega)) (by omega))
          rw [← hE] at hEs HE CE
          clear hE
          have g5 : ¬ 9223372036854775807 < S.size + E.size := by omega
          obtain ⟨t0, t1, t2, _, _, _⟩ := hKr.three
          go_upto_region 12 with fail
          go_region_held3 (fun w' => w'.cell? ⟨w3.heap.size, 0, none⟩ = some (.bool false) ∧ w'.cell? ⟨w3.heap.size, 1, none⟩ = some (.slice An (ln 10000 X) cn) ∧ w'.cell? ⟨w3.heap.size, 2, none⟩ = some (.slice Ad (ln 10000 Y) cd) ∧ Below wr.heap.size wr w')
            ((refine hold3 hKr ?_; first | exact (Below.refl _ wr).drew | (refine below_step (hold3_below (by assumption)) ?_; assumption)))
            (first
              | (go_at_call 72; refine (fromInt_eq 10 10 _ rfl (by omega)).mono ?_; rintro e w6 ⟨⟨v6, rfl, hv6⟩, hb6⟩; obtain ⟨A6, c6, rfl, _, _, _⟩ := RowF.open hv6; have K6 : Below wr.heap.size wr w6 := below_of_drew hb6; have H6 := Lib.hid hv6; clear hv6)
              | (go_at_call 60; refine (mulNat_any _ _ R 10 _ (Hr'.out.below K6 (Nat.le_refl _)) H6.out (by omega) (by omega)).mono ?_; rintro e w7 ⟨⟨v7, rfl, hv7⟩, hb7⟩; obtain ⟨A7, c7, rfl, _, _, _⟩ := RowF.open hv7; have K7 := K6.trans (hb7.mono K6.size); have H7 := Lib.hid hv7; clear hv7)
              | (go_at_call 71; refine (divNat_any _ _ (R * 10) Y _ H7.out (Hd.out.below (hbel.trans (K7.mono hbel.size)) (Nat.le_refl _)) pY (by omega) (by omega)).mono ?_; rintro e w8 ⟨⟨v8, v9, rfl, hv8, hv9⟩, hb8⟩; obtain ⟨A8, c8, rfl, _, _, _⟩ := RowF.open hv8; obtain ⟨A9, c9, rfl, _, _, _⟩ := RowF.open hv9; have K8 := K7.trans (hb8.mono K7.size); have H8 := Lib.hid hv8; have H9 := Lib.hid hv9; clear hv8 hv9))
          go_wp2_with (go_at_call 61; refine (CE.out _ _ (by rw [HC.out]; exact H8.out)).mono ?_; rintro e w10 ⟨rfl, hb10⟩)
          go_roundg (gk - 1)
          case rel =>
            refine ⟨j + 1, S ++ E, by omega, by go_num, rfl, ?_, ?_, ?_, hbel.trans ((K8.trans (hb10.mono K8.size)).mono hbel.size)⟩
            · rw [toList_app, HSL.out, HE.out, NN.out.1, pad_next _ _ _ N3, List.append_assoc]
            · have h1 := len_list (S ++ E)
              have h2 := len_list S
              have h3 := len_list E
              rw [toList_app, List.length_append, h2, h3] at h1
              omega
            · rw [NN.out.2]; exact H9.out.below hb10 (Nat.le_refl _)
          case measure => omega
        · obtain rfl : gk = 0 := by omega
          obtain rfl : j = n := by omega
          go_wp2_with fail
          go_ret2
          refine ⟨?_, hB.trans (hbel.mono Hsd.out.1)⟩
          show Ending.returned (.tuple #[.string S, .bool true]) = _
          have hS : S = ⟨(decTxt false X Y j).toArray⟩ := by
            refine (of_list HSL.out).trans (congrArg (fun l : List UInt8 => (⟨l.toArray⟩ : ByteArray)) ?_)
            rw [HP0.out]
            unfold decTxt
            rw [if_pos HK.out, if_pos HK.out]
            simp
          rw [hS]
    · rw [if_neg hk] at hS0
      have HK := Lib.hid hk
      go_wp2_with fail
      (try rw [hS0])
      clear hS0 hk
      have Hsd := Lib.hid (And.intro hs5 hKlt)
      go_loopg [1, 8, 9] n (fun q dv rv sv wr => ∃ (j : Nat) (S : ByteArray), j + q = n ∧ dv = .int .i64 (q : Nat) ∧ sv = .string S ∧ S.toList = P0 ++ padL j (X * 10 ^ j / Y) ∧ S.size ≤ 202 + 5 * j ∧ Nums 3 .i64 10000 wr rv (X * 10 ^ j % Y) ∧ Below w5.heap.size w5 wr)
      case atStart =>
        refine ⟨0, _, by omega, rfl, rfl, ?_, by omega, ?_, Below.refl _ _⟩
        · rw [HSl.out]; exact (List.append_nil _).symm
        · rw [Nat.pow_zero, Nat.mul_one]; exact Hr.out
      case round =>
        obtain ⟨j, S, hj, rfl, rfl, hSl, hSs2, hrem, hbel⟩ := hrel
        have HSL := Lib.hid hSl
        obtain ⟨N1, N2, N3⟩ := dig_next X Y j pY
        obtain ⟨R, hR⟩ : ∃ R, R = X * 10 ^ j % Y := ⟨_, rfl⟩
        have hRlt : R < Y := by rw [hR]; exact Nat.mod_lt _ pY
        rw [← hR] at hrem N1 N2 N3
        obtain ⟨c, hc⟩ : ∃ c, c = R * 10 / Y := ⟨_, rfl⟩
        rw [← hc] at N1 N3
        have NN := Lib.hid (And.intro N1 N2)
        have HC := Lib.hid hc
        have HR' := Lib.hid hR
        obtain ⟨Ar, cr, rfl, _, _, _⟩ := RowF.open hrem
        have Hr' := Lib.hid hrem
        have lR : ln 10000 R ≤ 137438953472 := Nat.le_trans (ln_mono 10000 _ _ (by omega) (Nat.le_of_lt hRlt)) lY
        have lR10 : ln 10000 (R * 10) ≤ 274877906944 := Nat.le_trans (ln_mul 10000 _ _ (by omega)) (by have : ln 10000 10 ≤ 1 := ln_le_of_lt 10000 10 1 (by omega) (by omega); omega)
        have l10 : ln 10000 10 ≤ 1 := ln_le_of_lt 10000 10 1 (by omega) (by omega)
        have hKr := hK.below hbel Hsd.out.2
        clear hSl N1 N2 hc hR hrem
        by_cases h0 : 0 < gk
        · have hEs : (dec c).size ≤ 5 := by
            show (decL c).length ≤ 5
            exact decL_len c (by omega)
          have HE := Lib.hid (dec_toList c)
          obtain ⟨E, hE⟩ : ∃ E, E = dec c := ⟨_, rfl⟩
          have CE : Hid (∀ (v : Value) (W : World), Nums 3 .i64 10000 W v c → _) := Lib.hid fun v W g => text_dec v c W g (Nat.le_trans (ln_le_of_lt 10000 c 1 (by omega) (by omega)) (by omega))
          rw [← hE] at hEs HE CE
          clear hE
          have g5 : ¬ 9223372036854775807 < S.size + E.size := by omega
          obtain ⟨t0, t1, t2, _, _, _⟩ := hKr.three
          go_upto_region 12 with fail
          go_region_held3 (fun w' => w'.cell? ⟨w3.heap.size, 0, none⟩ = some (.bool false) ∧ w'.cell? ⟨w3.heap.size, 1, none⟩ = some (.slice An (ln 10000 X) cn) ∧ w'.cell? ⟨w3.heap.size, 2, none⟩ = some (.slice Ad (ln 10000 Y) cd) ∧ Below wr.heap.size wr w')
            ((refine hold3 hKr ?_; first | exact (Below.refl _ wr).drew | (refine below_step (hold3_below (by assumption)) ?_; assumption)))
            (first
              | (go_at_call 72; refine (fromInt_eq 10 10 _ rfl (by omega)).mono ?_; rintro e w6 ⟨⟨v6, rfl, hv6⟩, hb6⟩; obtain ⟨A6, c6, rfl, _, _, _⟩ := RowF.open hv6; have K6 : Below wr.heap.size wr w6 := below_of_drew hb6; have H6 := Lib.hid hv6; clear hv6)
              | (go_at_call 60; refine (mulNat_any _ _ R 10 _ (Hr'.out.below K6 (Nat.le_refl _)) H6.out (by omega) (by omega)).mono ?_; rintro e w7 ⟨⟨v7, rfl, hv7⟩, hb7⟩; obtain ⟨A7, c7, rfl, _, _, _⟩ := RowF.open hv7; have K7 := K6.trans (hb7.mono K6.size); have H7 := Lib.hid hv7; clear hv7)
              | (go_at_call 71; refine (divNat_any _ _ (R * 10) Y _ H7.out (Hd.out.below (hbel.trans (K7.mono hbel.size)) (Nat.le_refl _)) pY (by omega) (by omega)).mono ?_; rintro e w8 ⟨⟨v8, v9, rfl, hv8, hv9⟩, hb8⟩; obtain ⟨A8, c8, rfl, _, _, _⟩ := RowF.open hv8; obtain ⟨A9, c9, rfl, _, _, _⟩ := RowF.open hv9; have K8 := K7.trans (hb8.mono K7.size); have H8 := Lib.hid hv8; have H9 := Lib.hid hv9; clear hv8 hv9))
          go_wp2_with (go_at_call 61; refine (CE.out _ _ (by rw [HC.out]; exact H8.out)).mono ?_; rintro e w10 ⟨rfl, hb10⟩)
          go_roundg (gk - 1)
          case rel =>
            refine ⟨j + 1, S ++ E, by omega, by go_num, rfl, ?_, ?_, ?_, hbel.trans ((K8.trans (hb10.mono K8.size)).mono hbel.size)⟩
            · rw [toList_app, HSL.out, HE.out, NN.out.1, pad_next _ _ _ N3, List.append_assoc]
            · have h1 := len_list (S ++ E)
              have h2 := len_list S
              have h3 := len_list E
              rw [toList_app, List.length_append, h2, h3] at h1
              omega
            · rw [NN.out.2]; exact H9.out.below hb10 (Nat.le_refl _)
          case measure => omega
        · obtain rfl : gk = 0 := by omega
          obtain rfl : j = n := by omega
          go_wp2_with fail
          go_ret2
          refine ⟨?_, hB.trans (hbel.mono Hsd.out.1)⟩
          show Ending.returned (.tuple #[.string S, .bool true]) = _
          have hS : S = ⟨(decTxt false X Y j).toArray⟩ := by
            refine (of_list HSL.out).trans (congrArg (fun l : List UInt8 => (⟨l.toArray⟩ : ByteArray)) ?_)
            rw [HP0.out]
            unfold decTxt
            rw [if_neg HK.out, if_neg HK.out]
            obtain rfl : j = 0 := by have := HK.out; omega
            simp [padL]
          rw [hS]
  | true =>
    go_enter Tryd.func37, Tryd.ntmps37
    go_upto_region 8 with (first
      | (go_at_call 39; refine (C1.out _).mono ?_; rintro e w1 ⟨rfl, hb⟩; replace hB := hB.trans (hb.mono hB.size); replace hA := hA.below hb hA.lt; clear hb r0 r1 r2; obtain ⟨r0, r1, r2, _, _, _⟩ := hA.three)
      | (go_at_call 58; refine (CI.out _).mono ?_; rintro e w2 ⟨rfl, rfl⟩)
      | (go_at_call 46; refine (CQ.out _).mono ?_; rintro e w3 ⟨⟨v, rfl, vn, vd, rfl, hvn, hvd⟩, hb⟩; obtain ⟨An, cn, rfl, _, _, _⟩ := RowF.open hvn; obtain ⟨Ad, cd, rfl, _, _, _⟩ := RowF.open hvd; replace hB := (hB.trans (hb.mono hB.size)).alloc (hB.trans (hb.mono hB.size)).size (.cells #[.bool true, .slice An (ln 10000 X) cn, .slice Ad (ln 10000 Y) cd] 53); replace hA := (hA.below hb hA.lt).alloc (.cells #[.bool true, .slice An (ln 10000 X) cn, .slice Ad (ln 10000 Y) cd] 53); have hK := Box.new w3 53 #[.bool true, .slice An (ln 10000 X) cn, .slice Ad (ln 10000 Y) cd]; have Hn := Lib.hid (hvn.below ((Below.refl w3.heap.size w3).alloc (Nat.le_refl _) (.cells #[.bool true, .slice An (ln 10000 X) cn, .slice Ad (ln 10000 Y) cd] 53)) (Nat.le_refl _)); have Hd := Lib.hid (hvd.below ((Below.refl w3.heap.size w3).alloc (Nat.le_refl _) (.cells #[.bool true, .slice An (ln 10000 X) cn, .slice Ad (ln 10000 Y) cd] 53)) (Nat.le_refl _)); clear hb r0 r1 r2 hvn hvd; obtain ⟨r0, r1, r2, _, _, _⟩ := hA.three; obtain ⟨k0, k1, k2, _, _, _⟩ := hK.three)
      | (go_at_call 71; refine (divNat_any _ _ X Y _ Hn.out Hd.out pY (by omega) (by omega)).mono ?_; rintro e w4 ⟨⟨v4, v5, rfl, hv4, hv5⟩, hb⟩; replace hB := hB.trans (hb.mono hB.size); replace hA := hA.below hb hA.lt; replace hK := hK.below hb hK.lt; replace Hd := Lib.hid (Hd.out.below hb (Nat.le_refl _)); have Hw := Lib.hid hv4; have Hr := Lib.hid hv5; clear hb hv4 hv5 r0 r1 r2 k0 k1 k2; obtain ⟨r0, r1, r2, _, _, _⟩ := hA.three; obtain ⟨k0, k1, k2, _, _, _⟩ := hK.three)
      | (go_at_call 61; refine (CT.out _ _ Hw.out).mono ?_; rintro e w5 ⟨rfl, hb⟩; replace hB := hB.trans (hb.mono hB.size); replace hA := hA.below hb hA.lt; replace hK := hK.below hb hK.lt; replace Hd := Lib.hid (Hd.out.below hb (Nat.le_refl _)); replace Hr := Lib.hid (Hr.out.below hb (Nat.le_refl _)); clear hb r0 r1 r2 k0 k1 k2; obtain ⟨r0, r1, r2, _, _, _⟩ := hA.three; obtain ⟨k0, k1, k2, _, _, _⟩ := hK.three))
    have hTl : (⟨#[45]⟩ ++ D : ByteArray).toList = [45] ++ decL (X / Y) := by rw [toList_app, HWT.out]; exact congrArg (· ++ _) (toList_mk [45])
    have hTs : (⟨#[45]⟩ ++ D : ByteArray).size ≤ 201 := by
      have h := len_list (⟨#[45]⟩ ++ D)
      have h2 := len_list D
      rw [HWT.out] at h2
      rw [hTl, List.length_append, h2] at h
      show _ ≤ 201
      simp only [List.length_cons, List.length_nil] at h
      omega
    obtain ⟨T, hT⟩ : ∃ T, T = (⟨#[45]⟩ ++ D : ByteArray) := ⟨_, rfl⟩
    rw [← hT] at hTl hTs ⊢
    clear hT
    obtain ⟨P0, hP0⟩ : ∃ P0 : List UInt8, P0 = [45] ++ decL (X / Y) ++ (if 0 < n then [46] else []) := ⟨_, rfl⟩
    have HTL := Lib.hid hTl
    have HP0 := Lib.hid hP0
    clear hTl hP0 C1 CQ CI CT Hw Hn hA r0 r1 r2 k0 k1 k2 g1 g2 g3 hwl
    have g4 : ¬ 9223372036854775807 < T.size + 1 := by omega
    have hs5 := hB.size
    have hKlt := hK.lt
    have hst : ∃ S0 : ByteArray, (if 0 < n then T ++ ⟨#[46]⟩ else T) = S0 ∧ S0.toList = P0 ∧ S0.size ≤ 202 := by
      refine ⟨_, rfl, ?_, ?_⟩
      · rw [HP0.out]
        split
        · rw [toList_app, HTL.out]; exact congrArg (_ ++ ·) (toList_mk [46])
        · rw [HTL.out, List.append_nil]
      · split
        · have h := len_list (T ++ ⟨#[46]⟩)
          have h2 := len_list T
          rw [toList_app, List.length_append, h2] at h
          have h3 : (⟨#[46]⟩ : ByteArray).toList.length = 1 := by rw [show (⟨#[46]⟩ : ByteArray).toList = [46] from toList_mk [46]]; rfl
          omega
        · omega
    obtain ⟨S0, hS0, hSl, hSs⟩ := hst
    have HSl := Lib.hid hSl
    clear hSl
    by_cases hk : 0 < n
    · rw [if_pos hk] at hS0
      have HK := Lib.hid hk
      go_wp2_with fail
      (try rw [hS0])
      clear hS0 hk
      have Hsd := Lib.hid (And.intro hs5 hKlt)
      go_loopg [1, 8, 9] n (fun q dv rv sv wr => ∃ (j : Nat) (S : ByteArray), j + q = n ∧ dv = .int .i64 (q : Nat) ∧ sv = .string S ∧ S.toList = P0 ++ padL j (X * 10 ^ j / Y) ∧ S.size ≤ 202 + 5 * j ∧ Nums 3 .i64 10000 wr rv (X * 10 ^ j % Y) ∧ Below w5.heap.size w5 wr)
      case atStart =>
        refine ⟨0, _, by omega, rfl, rfl, ?_, by omega, ?_, Below.refl _ _⟩
        · rw [HSl.out]; exact (List.append_nil _).symm
        · rw [Nat.pow_zero, Nat.mul_one]; exact Hr.out
      case round =>
        obtain ⟨j, S, hj, rfl, rfl, hSl, hSs2, hrem, hbel⟩ := hrel
        have HSL := Lib.hid hSl
        obtain ⟨N1, N2, N3⟩ := dig_next X Y j pY
        obtain ⟨R, hR⟩ : ∃ R, R = X * 10 ^ j % Y := ⟨_, rfl⟩
        have hRlt : R < Y := by rw [hR]; exact Nat.mod_lt _ pY
        rw [← hR] at hrem N1 N2 N3
        obtain ⟨c, hc⟩ : ∃ c, c = R * 10 / Y := ⟨_, rfl⟩
        rw [← hc] at N1 N3
        have NN := Lib.hid (And.intro N1 N2)
        have HC := Lib.hid hc
        have HR' := Lib.hid hR
        obtain ⟨Ar, cr, rfl, _, _, _⟩ := RowF.open hrem
        have Hr' := Lib.hid hrem
        have lR : ln 10000 R ≤ 137438953472 := Nat.le_trans (ln_mono 10000 _ _ (by omega) (Nat.le_of_lt hRlt)) lY
        have lR10 : ln 10000 (R * 10) ≤ 274877906944 := Nat.le_trans (ln_mul 10000 _ _ (by omega)) (by have : ln 10000 10 ≤ 1 := ln_le_of_lt 10000 10 1 (by omega) (by omega); omega)
        have l10 : ln 10000 10 ≤ 1 := ln_le_of_lt 10000 10 1 (by omega) (by omega)
        have hKr := hK.below hbel Hsd.out.2
        clear hSl N1 N2 hc hR hrem
        by_cases h0 : 0 < gk
        · have hEs : (dec c).size ≤ 5 := by
            show (decL c).length ≤ 5
            exact decL_len c (by omega)
          have HE := Lib.hid (dec_toList c)
          obtain ⟨E, hE⟩ : ∃ E, E = dec c := ⟨_, rfl⟩
          have CE : Hid (∀ (v : Value) (W : World), Nums 3 .i64 10000 W v c → _) := Lib.hid fun v W g => text_dec v c W g (Nat.le_trans (ln_le_of_lt 10000 c 1 (by omega) (by omega)) (by omega))
          rw [← hE] at hEs HE CE
          clear hE
          have g5 : ¬ 9223372036854775807 < S.size + E.size := by omega
          obtain ⟨t0, t1, t2, _, _, _⟩ := hKr.three
          go_upto_region 12 with fail
          go_region_held3 (fun w' => w'.cell? ⟨w3.heap.size, 0, none⟩ = some (.bool true) ∧ w'.cell? ⟨w3.heap.size, 1, none⟩ = some (.slice An (ln 10000 X) cn) ∧ w'.cell? ⟨w3.heap.size, 2, none⟩ = some (.slice Ad (ln 10000 Y) cd) ∧ Below wr.heap.size wr w')
            ((refine hold3 hKr ?_; first | exact (Below.refl _ wr).drew | (refine below_step (hold3_below (by assumption)) ?_; assumption)))
            (first
              | (go_at_call 72; refine (fromInt_eq 10 10 _ rfl (by omega)).mono ?_; rintro e w6 ⟨⟨v6, rfl, hv6⟩, hb6⟩; obtain ⟨A6, c6, rfl, _, _, _⟩ := RowF.open hv6; have K6 : Below wr.heap.size wr w6 := below_of_drew hb6; have H6 := Lib.hid hv6; clear hv6)
              | (go_at_call 60; refine (mulNat_any _ _ R 10 _ (Hr'.out.below K6 (Nat.le_refl _)) H6.out (by omega) (by omega)).mono ?_; rintro e w7 ⟨⟨v7, rfl, hv7⟩, hb7⟩; obtain ⟨A7, c7, rfl, _, _, _⟩ := RowF.open hv7; have K7 := K6.trans (hb7.mono K6.size); have H7 := Lib.hid hv7; clear hv7)
              | (go_at_call 71; refine (divNat_any _ _ (R * 10) Y _ H7.out (Hd.out.below (hbel.trans (K7.mono hbel.size)) (Nat.le_refl _)) pY (by omega) (by omega)).mono ?_; rintro e w8 ⟨⟨v8, v9, rfl, hv8, hv9⟩, hb8⟩; obtain ⟨A8, c8, rfl, _, _, _⟩ := RowF.open hv8; obtain ⟨A9, c9, rfl, _, _, _⟩ := RowF.open hv9; have K8 := K7.trans (hb8.mono K7.size); have H8 := Lib.hid hv8; have H9 := Lib.hid hv9; clear hv8 hv9))
          go_wp2_with (go_at_call 61; refine (CE.out _ _ (by rw [HC.out]; exact H8.out)).mono ?_; rintro e w10 ⟨rfl, hb10⟩)
          go_roundg (gk - 1)
          case rel =>
            refine ⟨j + 1, S ++ E, by omega, by go_num, rfl, ?_, ?_, ?_, hbel.trans ((K8.trans (hb10.mono K8.size)).mono hbel.size)⟩
            · rw [toList_app, HSL.out, HE.out, NN.out.1, pad_next _ _ _ N3, List.append_assoc]
            · have h1 := len_list (S ++ E)
              have h2 := len_list S
              have h3 := len_list E
              rw [toList_app, List.length_append, h2, h3] at h1
              omega
            · rw [NN.out.2]; exact H9.out.below hb10 (Nat.le_refl _)
          case measure => omega
        · obtain rfl : gk = 0 := by omega
          obtain rfl : j = n := by omega
          go_wp2_with fail
          go_ret2
          refine ⟨?_, hB.trans (hbel.mono Hsd.out.1)⟩
          show Ending.returned (.tuple #[.string S, .bool true]) = _
          have hS : S = ⟨(decTxt true X Y j).toArray⟩ := by
            refine (of_list HSL.out).trans (congrArg (fun l : List UInt8 => (⟨l.toArray⟩ : ByteArray)) ?_)
            rw [HP0.out]
            unfold decTxt
            rw [if_pos HK.out, if_pos HK.out]
            simp
          rw [hS]
    · rw [if_neg hk] at hS0
      have HK := Lib.hid hk
      go_wp2_with fail
      (try rw [hS0])
      clear hS0 hk
      have Hsd := Lib.hid (And.intro hs5 hKlt)
      go_loopg [1, 8, 9] n (fun q dv rv sv wr => ∃ (j : Nat) (S : ByteArray), j + q = n ∧ dv = .int .i64 (q : Nat) ∧ sv = .string S ∧ S.toList = P0 ++ padL j (X * 10 ^ j / Y) ∧ S.size ≤ 202 + 5 * j ∧ Nums 3 .i64 10000 wr rv (X * 10 ^ j % Y) ∧ Below w5.heap.size w5 wr)
      case atStart =>
        refine ⟨0, _, by omega, rfl, rfl, ?_, by omega, ?_, Below.refl _ _⟩
        · rw [HSl.out]; exact (List.append_nil _).symm
        · rw [Nat.pow_zero, Nat.mul_one]; exact Hr.out
      case round =>
        obtain ⟨j, S, hj, rfl, rfl, hSl, hSs2, hrem, hbel⟩ := hrel
        have HSL := Lib.hid hSl
        obtain ⟨N1, N2, N3⟩ := dig_next X Y j pY
        obtain ⟨R, hR⟩ : ∃ R, R = X * 10 ^ j % Y := ⟨_, rfl⟩
        have hRlt : R < Y := by rw [hR]; exact Nat.mod_lt _ pY
        rw [← hR] at hrem N1 N2 N3
        obtain ⟨c, hc⟩ : ∃ c, c = R * 10 / Y := ⟨_, rfl⟩
        rw [← hc] at N1 N3
        have NN := Lib.hid (And.intro N1 N2)
        have HC := Lib.hid hc
        have HR' := Lib.hid hR
        obtain ⟨Ar, cr, rfl, _, _, _⟩ := RowF.open hrem
        have Hr' := Lib.hid hrem
        have lR : ln 10000 R ≤ 137438953472 := Nat.le_trans (ln_mono 10000 _ _ (by omega) (Nat.le_of_lt hRlt)) lY
        have lR10 : ln 10000 (R * 10) ≤ 274877906944 := Nat.le_trans (ln_mul 10000 _ _ (by omega)) (by have : ln 10000 10 ≤ 1 := ln_le_of_lt 10000 10 1 (by omega) (by omega); omega)
        have l10 : ln 10000 10 ≤ 1 := ln_le_of_lt 10000 10 1 (by omega) (by omega)
        have hKr := hK.below hbel Hsd.out.2
        clear hSl N1 N2 hc hR hrem
        by_cases h0 : 0 < gk
        · have hEs : (dec c).size ≤ 5 := by
            show (decL c).length ≤ 5
            exact decL_len c (by omega)
          have HE := Lib.hid (dec_toList c)
          obtain ⟨E, hE⟩ : ∃ E, E = dec c := ⟨_, rfl⟩
          have CE : Hid (∀ (v : Value) (W : World), Nums 3 .i64 10000 W v c → _) := Lib.hid fun v W g => text_dec v c W g (Nat.le_trans (ln_le_of_lt 10000 c 1 (by omega) (by omega)) (by omega))
          rw [← hE] at hEs HE CE
          clear hE
          have g5 : ¬ 9223372036854775807 < S.size + E.size := by omega
          obtain ⟨t0, t1, t2, _, _, _⟩ := hKr.three
          go_upto_region 12 with fail
          go_region_held3 (fun w' => w'.cell? ⟨w3.heap.size, 0, none⟩ = some (.bool true) ∧ w'.cell? ⟨w3.heap.size, 1, none⟩ = some (.slice An (ln 10000 X) cn) ∧ w'.cell? ⟨w3.heap.size, 2, none⟩ = some (.slice Ad (ln 10000 Y) cd) ∧ Below wr.heap.size wr w')
            ((refine hold3 hKr ?_; first | exact (Below.refl _ wr).drew | (refine below_step (hold3_below (by assumption)) ?_; assumption)))
            (first
              | (go_at_call 72; refine (fromInt_eq 10 10 _ rfl (by omega)).mono ?_; rintro e w6 ⟨⟨v6, rfl, hv6⟩, hb6⟩; obtain ⟨A6, c6, rfl, _, _, _⟩ := RowF.open hv6; have K6 : Below wr.heap.size wr w6 := below_of_drew hb6; have H6 := Lib.hid hv6; clear hv6)
              | (go_at_call 60; refine (mulNat_any _ _ R 10 _ (Hr'.out.below K6 (Nat.le_refl _)) H6.out (by omega) (by omega)).mono ?_; rintro e w7 ⟨⟨v7, rfl, hv7⟩, hb7⟩; obtain ⟨A7, c7, rfl, _, _, _⟩ := RowF.open hv7; have K7 := K6.trans (hb7.mono K6.size); have H7 := Lib.hid hv7; clear hv7)
              | (go_at_call 71; refine (divNat_any _ _ (R * 10) Y _ H7.out (Hd.out.below (hbel.trans (K7.mono hbel.size)) (Nat.le_refl _)) pY (by omega) (by omega)).mono ?_; rintro e w8 ⟨⟨v8, v9, rfl, hv8, hv9⟩, hb8⟩; obtain ⟨A8, c8, rfl, _, _, _⟩ := RowF.open hv8; obtain ⟨A9, c9, rfl, _, _, _⟩ := RowF.open hv9; have K8 := K7.trans (hb8.mono K7.size); have H8 := Lib.hid hv8; have H9 := Lib.hid hv9; clear hv8 hv9))
          go_wp2_with (go_at_call 61; refine (CE.out _ _ (by rw [HC.out]; exact H8.out)).mono ?_; rintro e w10 ⟨rfl, hb10⟩)
          go_roundg (gk - 1)
          case rel =>
            refine ⟨j + 1, S ++ E, by omega, by go_num, rfl, ?_, ?_, ?_, hbel.trans ((K8.trans (hb10.mono K8.size)).mono hbel.size)⟩
            · rw [toList_app, HSL.out, HE.out, NN.out.1, pad_next _ _ _ N3, List.append_assoc]
            · have h1 := len_list (S ++ E)
              have h2 := len_list S
              have h3 := len_list E
              rw [toList_app, List.length_append, h2, h3] at h1
              omega
            · rw [NN.out.2]; exact H9.out.below hb10 (Nat.le_refl _)
          case measure => omega
        · obtain rfl : gk = 0 := by omega
          obtain rfl : j = n := by omega
          go_wp2_with fail
          go_ret2
          refine ⟨?_, hB.trans (hbel.mono Hsd.out.1)⟩
          show Ending.returned (.tuple #[.string S, .bool true]) = _
          have hS : S = ⟨(decTxt true X Y j).toArray⟩ := by
            refine (of_list HSL.out).trans (congrArg (fun l : List UInt8 => (⟨l.toArray⟩ : ByteArray)) ?_)
            rw [HP0.out]
            unfold decTxt
            rw [if_neg HK.out, if_neg HK.out]
            obtain rfl : j = 0 := by have := HK.out; omega
            simp [padL]
          rw [hS]

end Go.Proofs.YteefgmnjhlmbiaaDoor
